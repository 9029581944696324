/- RlF, RlG -/
import Derived.Test.YtojfcdjgcgnajaaGreatRlE
namespace Go.Proofs.YtojfcdjgcgnajaaGreat.Rl
open Go.RowKit Go.Maps Go.Joins
set_option linter.unusedSimpArgs false
set_option linter.unusedVariables false
set_option maxRecDepth 100000 in
set_option maxHeartbeats 8000000 in
theorem appB_any {w : World} {base : Nat} (v bv : Value) (bs ys : List Int) (hown : w.ownsRow base 5 1 v bs.length (vB bs)) (hb : BytD w (Off w v) bv ys) (hl : bs.length ≤ 65536) (hbase : base ≤ w.heap.size) :
 Calls Tryz.prog 104 #[v, bv] w fun e w' => w.grownBy w' v.ownBlock ∧ (65536 < bs.length + (encS ys).length → e = pan 3) ∧ (¬ 65536 < bs.length + (encS ys).length → ∃ v', e = .returned v' ∧ Out w w' base v v' (bs ++ encS ys)) := by
 obtain ⟨ab, cb, rfl⟩ := hb.is.form; obtain ⟨m, hm⟩ : ∃ m, m = ys.length := ⟨_, rfl⟩
 have hle : ys.length ≤ (encS ys).length := by unfold encS; split <;> simp
 rw [← hm] at hb hle ⊢; have HB : Hid (BytD w (Off w v) (.slice ab m cb) ys) := hb; have HO : Hid (w.ownsRow base 5 1 v bs.length (vB bs)) := hown; have HM : Hid (m = ys.length) := hm; obtain ⟨a, cap, rfl, q1, q2, q3, q4⟩ := row_cap hown; by_cases hbig : 65536 < m
 · have h' : (65536 : Int) < m := by omega
   clear hb hown hm; go_enter Tryz.func104, Tryz.ntmps104; go_wp2; refine ⟨rfl, World.grownBy.refl _ _, fun _ => rfl, fun h => absurd h ?_⟩; omega
 · have h' : ¬ (65536 : Int) < m := by omega
   have hlast : ∀ (w1 : World) (a1 : Option Addr) (c1 n1 : Nat) (bs1 : List Int), n1 = bs1.length → w1.ownsRow base 5 1 (.slice a1 n1 c1) bs1.length (vB bs1) → BytD w1 (fun _ => True) (.slice ab m cb) ys → bs1.length ≤ 100000 → base ≤ w1.heap.size →
    ∀ (ops : Array Oper) (rest : List Oper) (o : Oper) (act : Act) (Q : Exit → Act → World → Prop) (s x : Operand), o.guard = none → o.op = .call { callee := .builtin .append, args := #[s, x], argTypes := #[28, 28] } → act.eval s = .slice a1 n1 c1 → act.eval x = .slice ab m cb →
    (∀ a2 c2 L w2, L = (bs1 ++ ys).length → w2.ownsRow base 5 1 (.slice a2 L c2) (bs1 ++ ys).length (vB (bs1 ++ ys)) → w1.grownBy w2 (Value.slice a1 n1 c1).ownBlock → ((Value.slice a2 L c2).ownBlock = (Value.slice a1 n1 c1).ownBlock ∨ (Value.slice a2 L c2).ownBlock = some w1.heap.size) → wpList Tryz.prog ops Q rest (act.put o.dst (.slice a2 L c2)) w2) → wpList Tryz.prog ops Q (o :: rest) act w1 := by
    intro w1 a1 c1 n1 bs1 hn1 ho1 hb1 hl1 hba ops rest o act Q s x hgd ho hs hx hk; refine wpList_append_b hgd s x ho base (.slice a1 n1 c1) (.slice ab m cb) bs1 ys hs ho1 hx hb1.is (by have := hb1.len; omega) hba ?_; intro v' w2 ho2 hg2 ha2; obtain ⟨a2, c2, rfl⟩ := row_form ho2; exact hk a2 c2 _ w2 rfl ho2 hg2 ha2
   have HLast : Hid _ := hlast; have HL : Hid (bs.length ≤ 65536) := hl; clear hlast hl; obtain ⟨n, hn⟩ : ∃ n, n = bs.length := ⟨_, rfl⟩
   rw [← hn]; have HN : Hid (n = bs.length) := hn; by_cases hone : m = 1 ∧ ys.headD 0 < 128
   · obtain ⟨rfl, hc⟩ := hone
     obtain ⟨c, rfl⟩ := List.length_eq_one_iff.1 hm.symm; obtain ⟨g, o, rfl, hcell⟩ := hb.is.at (k := 0) (x := c) rfl; have e1 : encS [c] = [c] := by unfold encS; rw [if_pos ⟨rfl, hc⟩]
     have hc' : c < 128 := by simpa using hc
     rw [Nat.add_zero] at hcell; have HE : Hid (encS [c] = [c]) := e1; clear hb hown hm hle e1 hn; have T1 : Hid True := trivial; have hcd : ¬ (128 : Int) ≤ c := by omega
     go_enter Tryz.func104, Tryz.ntmps104
     go_wp2_with (first
      | (have _ := T1
         at_builtin
         clear T1; refine HLast.out w a cap n bs HN.out (by have := HO.out; rw [← HN.out] at this ⊢; exact this) (HB.out.mono (fun _ _ => rfl) (fun _ _ => trivial)) (by have := HL.out; omega) hbase _ _ _ _ _ _ _ rfl rfl rfl rfl ?_; intro a2 c2 L w2 hL ho hg ha; have H2 : Hid (w2.ownsRow base 5 1 (.slice a2 L c2) (bs ++ [c]).length (vB (bs ++ [c])) ∧ w.grownBy w2 (Value.slice a n cap).ownBlock ∧ ((Value.slice a2 L c2).ownBlock = (Value.slice a n cap).ownBlock ∨ (Value.slice a2 L c2).ownBlock = some w.heap.size) ∧ L = n + 1) := ⟨ho, hg, ha, by rw [hL, HN.out]; simp⟩
         have T2 : Hid True := trivial; clear ho hg ha hL)
      | (have _ := T2
         go_at_call 105
         clear T2))
     by_cases hfit : 65536 < L
     · refine (fitting_no a2 L c2 hfit).mono ?_
       rintro e w3 ⟨rfl, hw3⟩; obtain rfl := hw3.symm; refine ⟨rfl, H2.out.2.1, fun _ => rfl, fun h => absurd h ?_⟩; rw [HE.out]; have := H2.out.2.2.2; simp; omega
     · refine (fitting_ok a2 L c2 (by omega)).mono ?_
       rintro e w3 ⟨rfl, hw3⟩; obtain rfl := hw3.symm; go_wp2; go_ret; refine ⟨H2.out.2.1, fun h => ?_, fun _ => ⟨_, rfl, ?_⟩⟩
       · exfalso
         rw [HE.out] at h; have := H2.out.2.2.2; simp at h; omega
       · rw [HE.out]
         refine ⟨H2.out.1, ?_⟩; rcases H2.out.2.2.1 with h | h
         · exact Or.inl h
         · exact Or.inr ⟨_, h, Nat.le_refl _⟩
   · have e1 : encS ys = headB 128 m ++ ys := by unfold encS; rw [if_neg (by rw [← hm]; exact hone), ← hm]
     have hhl : (headB 128 m).length ≤ 9 := by
      unfold headB; split
      · simp
      · have := shortB_len 3 m (by omega)
        simp
        omega
     have HE : Hid (encS ys = headB 128 m ++ ys ∧ (headB 128 m).length ≤ 9) := ⟨e1, hhl⟩
     have hT : ∀ (P : Prop), (((m : Int) == 1) = false → P) → (∀ g o c, ab = some ⟨g, o, none⟩ → m = 1 → ys = [c] → ¬ c < 128 → w.cell? ⟨g, o, none⟩ = some (.int .u8 c) → P) → P := fun P h1 h2 => by
      by_cases h0 : m = 1
      · obtain ⟨c, rfl⟩ := List.length_eq_one_iff.1 (hm.symm.trans h0)
        obtain ⟨g, o, rfl, hcell⟩ := hb.is.at (k := 0) (x := c) rfl; exact h2 g o c rfl h0 rfl (fun h => hone ⟨h0, by simpa using h⟩) hcell
      · exact h1 (by simp; omega)
     have hmm : m ≤ 65536 := by omega
     clear hb hown hm hle e1 hhl hn hone; have T0 : Hid True := trivial; refine hT _ (fun hm1 => ?_) (fun g o c hab hm1 hys hc hcell => ?_)
     all_goals clear hT
     · have hm2 : ((m : Int) != 1) = true := by simp [bne, hm1]
       go_enter Tryz.func104, Tryz.ntmps104
       go_wp2_with (first
        | (have _ := T0
           go_at_call 107
           clear T0; refine (head_any 128 (Or.inl rfl) m (by omega)).mono ?_; rintro e w1 ⟨hv, rfl, ho1, hb1⟩; obtain ⟨ah, ch, rfl⟩ := row_form ho1; obtain ⟨K, hK⟩ : ∃ K, K = (headB 128 m).length := ⟨_, rfl⟩
           rw [← hK] at ho1 ⊢; have H1 : Hid (w1.ownsRow w.heap.size 5 1 (.slice ah K ch) (headB 128 m).length (vB (headB 128 m)) ∧ Below w.heap.size w w1 ∧ K = (headB 128 m).length) := ⟨by rw [← hK]; exact ho1, hb1, hK⟩
           have T1 : Hid True := trivial; clear ho1 hb1 hK)
        | (have _ := T1
           at_builtin
           clear T1; refine wpList_append_b rfl _ _ rfl base (.slice a n cap) (.slice ah K ch) bs (headB 128 m) rfl (by have := HO.out; rw [← HN.out] at this ⊢; exact ownsRow_heap this (fun b hb => H1.out.2.1.block b (this.lt b hb).2)) rfl (BytesV.of_own (by have := H1.out.1; rw [H1.out.2.2] at this ⊢; exact this)) (by have := HL.out; have := HE.out.2; omega) (by have := H1.out.2.1.size; omega) ?_; intro v' w2 ho hg ha; obtain ⟨a2, c2, rfl⟩ := row_form ho; obtain ⟨L, hL⟩ : ∃ L, L = (bs ++ headB 128 m).length := ⟨_, rfl⟩
           rw [← hL] at ho ha ⊢; have hgb : w.grownBy w2 (Value.slice a n cap).ownBlock := gb_comp (gb_of_below H1.out.2.1 _) hg (Or.inl rfl); have hoff : (Value.slice a2 L c2).ownBlock = (Value.slice a n cap).ownBlock ∨ ∃ b, (Value.slice a2 L c2).ownBlock = some b ∧ w.heap.size ≤ b := by
            rcases ha with h | h
            · exact Or.inl h
            · exact Or.inr ⟨_, h, H1.out.2.1.size⟩
           have H2 : Hid (w2.ownsRow base 5 1 (.slice a2 L c2) (bs ++ headB 128 m).length (vB (bs ++ headB 128 m)) ∧ w.grownBy w2 (Value.slice a n cap).ownBlock ∧ ((Value.slice a2 L c2).ownBlock = (Value.slice a n cap).ownBlock ∨ ∃ b, (Value.slice a2 L c2).ownBlock = some b ∧ w.heap.size ≤ b) ∧ L = (bs ++ headB 128 m).length ∧ BytD w2 (fun _ => True) (.slice ab m cb) ys) := ⟨by rw [← hL]; exact ho, hgb, hoff, hL, HB.out.mono (fun b hb => hgb.block b hb.1 (fun e => hb.2 (by rw [HN.out] at e; exact e.symm))) (fun _ _ => trivial)⟩
           have T2 : Hid True := trivial; clear ho hg ha hL hgb hoff)
        | (have _ := T2
           at_builtin
           clear T2; refine HLast.out w2 a2 c2 L (bs ++ headB 128 m) H2.out.2.2.2.1 H2.out.1 H2.out.2.2.2.2 (by rw [List.length_append]; have := HL.out; have := HE.out.2; omega) (by have := H2.out.2.1.size; omega) _ _ _ _ _ _ _ rfl rfl rfl rfl ?_; intro a3 c3 M w3 hM ho hg ha; have H3 : Hid (w3.ownsRow base 5 1 (.slice a3 M c3) (bs ++ headB 128 m ++ ys).length (vB (bs ++ headB 128 m ++ ys)) ∧ w.grownBy w3 (Value.slice a n cap).ownBlock ∧ ((Value.slice a3 M c3).ownBlock = (Value.slice a n cap).ownBlock ∨ ∃ b, (Value.slice a3 M c3).ownBlock = some b ∧ w.heap.size ≤ b) ∧ M = n + (encS ys).length) := ⟨ho, gb_comp H2.out.2.1 hg H2.out.2.2.1, by
            rcases ha with h | h
            · rw [h]; exact H2.out.2.2.1
            · exact Or.inr ⟨_, h, H2.out.2.1.size⟩, by rw [hM, HE.out.1, HN.out]; simp only [List.length_append]; omega⟩
           have T3 : Hid True := trivial; clear ho hg ha hM)
        | (have _ := T3
           go_at_call 105
           clear T3))
       by_cases hfit : 65536 < M
       · refine (fitting_no a3 M c3 hfit).mono ?_
         rintro e w4 ⟨rfl, hw4⟩; obtain rfl := hw4.symm; refine ⟨rfl, H3.out.2.1, fun _ => rfl, fun h => absurd h ?_⟩; have := H3.out.2.2.2; omega
       · refine (fitting_ok a3 M c3 (by omega)).mono ?_
         rintro e w4 ⟨rfl, hw4⟩; obtain rfl := hw4.symm; go_wp2; go_ret; refine ⟨H3.out.2.1, fun h => ?_, fun _ => ⟨_, rfl, ?_⟩⟩
         · exfalso
           have := H3.out.2.2.2; omega
         · rw [HE.out.1, ← List.append_assoc]
           exact ⟨H3.out.1, H3.out.2.2.1⟩
     · obtain rfl := hab
       have hc' : (128 : Int) ≤ c := by omega
       clear hys; subst hm1; go_enter Tryz.func104, Tryz.ntmps104; go_wp2_with (first
        | (have _ := T0
           go_at_call 107
           clear T0; refine (head_any 128 (Or.inl rfl) 1 (by omega)).mono ?_; rintro e w1 ⟨hv, rfl, ho1, hb1⟩; obtain ⟨ah, ch, rfl⟩ := row_form ho1; obtain ⟨K, hK⟩ : ∃ K, K = (headB 128 1).length := ⟨_, rfl⟩
           rw [← hK] at ho1 ⊢; have H1 : Hid (w1.ownsRow w.heap.size 5 1 (.slice ah K ch) (headB 128 1).length (vB (headB 128 1)) ∧ Below w.heap.size w w1 ∧ K = (headB 128 1).length) := ⟨by rw [← hK]; exact ho1, hb1, hK⟩
           have T1 : Hid True := trivial; clear ho1 hb1 hK)
        | (have _ := T1
           at_builtin
           clear T1; refine wpList_append_b rfl _ _ rfl base (.slice a n cap) (.slice ah K ch) bs (headB 128 1) rfl (by have := HO.out; rw [← HN.out] at this ⊢; exact ownsRow_heap this (fun b hb => H1.out.2.1.block b (this.lt b hb).2)) rfl (BytesV.of_own (by have := H1.out.1; rw [H1.out.2.2] at this ⊢; exact this)) (by have := HL.out; have := HE.out.2; omega) (by have := H1.out.2.1.size; omega) ?_; intro v' w2 ho hg ha; obtain ⟨a2, c2, rfl⟩ := row_form ho; obtain ⟨L, hL⟩ : ∃ L, L = (bs ++ headB 128 1).length := ⟨_, rfl⟩
           rw [← hL] at ho ha ⊢; have hgb : w.grownBy w2 (Value.slice a n cap).ownBlock := gb_comp (gb_of_below H1.out.2.1 _) hg (Or.inl rfl); have hoff : (Value.slice a2 L c2).ownBlock = (Value.slice a n cap).ownBlock ∨ ∃ b, (Value.slice a2 L c2).ownBlock = some b ∧ w.heap.size ≤ b := by
            rcases ha with h | h
            · exact Or.inl h
            · exact Or.inr ⟨_, h, H1.out.2.1.size⟩
           have H2 : Hid (w2.ownsRow base 5 1 (.slice a2 L c2) (bs ++ headB 128 1).length (vB (bs ++ headB 128 1)) ∧ w.grownBy w2 (Value.slice a n cap).ownBlock ∧ ((Value.slice a2 L c2).ownBlock = (Value.slice a n cap).ownBlock ∨ ∃ b, (Value.slice a2 L c2).ownBlock = some b ∧ w.heap.size ≤ b) ∧ L = (bs ++ headB 128 1).length ∧ BytD w2 (fun _ => True) (.slice (some ⟨g, o, none⟩) 1 cb) ys) := ⟨by rw [← hL]; exact ho, hgb, hoff, hL, HB.out.mono (fun b hb => hgb.block b hb.1 (fun e => hb.2 (by rw [HN.out] at e; exact e.symm))) (fun _ _ => trivial)⟩
           have T2 : Hid True := trivial; clear ho hg ha hL hgb hoff)
        | (have _ := T2
           at_builtin
           clear T2; refine HLast.out w2 a2 c2 L (bs ++ headB 128 1) H2.out.2.2.2.1 H2.out.1 H2.out.2.2.2.2 (by rw [List.length_append]; have := HL.out; have := HE.out.2; omega) (by have := H2.out.2.1.size; omega) _ _ _ _ _ _ _ rfl rfl rfl rfl ?_; intro a3 c3 M w3 hM ho hg ha; have H3 : Hid (w3.ownsRow base 5 1 (.slice a3 M c3) (bs ++ headB 128 1 ++ ys).length (vB (bs ++ headB 128 1 ++ ys)) ∧ w.grownBy w3 (Value.slice a n cap).ownBlock ∧ ((Value.slice a3 M c3).ownBlock = (Value.slice a n cap).ownBlock ∨ ∃ b, (Value.slice a3 M c3).ownBlock = some b ∧ w.heap.size ≤ b) ∧ M = n + (encS ys).length) := ⟨ho, gb_comp H2.out.2.1 hg H2.out.2.2.1, by
            rcases ha with h | h
            · rw [h]; exact H2.out.2.2.1
            · exact Or.inr ⟨_, h, H2.out.2.1.size⟩, by rw [hM, HE.out.1, HN.out]; simp only [List.length_append]; omega⟩
           have T3 : Hid True := trivial; clear ho hg ha hM)
        | (have _ := T3
           go_at_call 105
           clear T3))
       by_cases hfit : 65536 < M
       · refine (fitting_no a3 M c3 hfit).mono ?_
         rintro e w4 ⟨rfl, hw4⟩; obtain rfl := hw4.symm; refine ⟨rfl, H3.out.2.1, fun _ => rfl, fun h => absurd h ?_⟩; have := H3.out.2.2.2; omega
       · refine (fitting_ok a3 M c3 (by omega)).mono ?_
         rintro e w4 ⟨rfl, hw4⟩; obtain rfl := hw4.symm; go_wp2; go_ret; refine ⟨H3.out.2.1, fun h => ?_, fun _ => ⟨_, rfl, ?_⟩⟩
         · exfalso
           have := H3.out.2.2.2; omega
         · rw [HE.out.1, ← List.append_assoc]
           exact ⟨H3.out.1, H3.out.2.2.1⟩
end Go.Proofs.YtojfcdjgcgnajaaGreat.Rl
namespace Go.Proofs.YtojfcdjgcgnajaaGreat.Rl
open Go.RowKit Go.Maps Go.Joins
set_option linter.unusedSimpArgs false
set_option linter.unusedVariables false
theorem shpL_take {xs : List Tr} {k : Nat} {x : Tr} (h : xs[k]? = some x) : shpL (xs.take (k + 1)) = (shpL (xs.take k) && shp x) := by
 have e : xs.take (k + 1) = xs.take k ++ [x] := by rw [List.take_add_one, h]; rfl
 rw [e]; generalize xs.take k = ys; induction ys with
 | nil => simp [shpL]
 | cons y ys ih => simp [shpL, ih, Bool.and_assoc]
theorem shpL_false {xs : List Tr} {k : Nat} {x : Tr} (h : xs[k]? = some x) (hx : shp x = false) : shpL xs = false := by
 cases hs : shpL xs with
 | false => rfl
 | true =>
   have := (shpL_iff xs).1 hs x (List.mem_of_getElem? h); rw [hx] at this; cases this
set_option maxRecDepth 100000 in
set_option maxHeartbeats 8000000 in
theorem check_any (x : Tr) : ∀ (w : World) (sb si : Value) (D : Nat → Prop), ItV w D sb si x → (∀ b, D b → b < w.heap.size) →
 Calls Tryz.prog 68 #[.agg #[.bool x.l, sb, si]] w fun e w' => Below w.heap.size w w' ∧ (shp x = true → e = .returned (.tuple #[])) ∧ (shp x = false → e = pan 1) := by
 induction x using Tr.ind with
 | h l b xs ih =>
   intro w sb si D h hD; obtain ⟨ab, cb, rfl⟩ : ∃ a cap, sb = .slice a b.length cap := h.b.is.form; obtain ⟨ai, ci, rfl, i1, i2, i3⟩ : ∃ a cap, si = .slice a xs.length cap ∧ xs.length ≤ cap ∧ cap ≤ 9223372036854775807 ∧ xs.length * 56 ≤ 140737488355328 := h.xs.form; show Calls Tryz.prog 68 #[.agg #[.bool l, .slice ab b.length cb, .slice ai xs.length ci]] w _; have HI : Hid (ItV w D (.slice ab b.length cb) (.slice ai xs.length ci) (.mk l b xs)) := h; have HD : Hid (∀ b, D b → b < w.heap.size) := hD; have IH : Hid _ := ih; obtain ⟨n, hn⟩ : ∃ n, n = xs.length := ⟨_, rfl⟩
   obtain ⟨m, hm⟩ : ∃ m, m = b.length := ⟨_, rfl⟩
   rw [← hn, ← hm] at HI ⊢; rw [← hn] at i1 i3; have HN : Hid (n = xs.length ∧ m = b.length) := ⟨hn, hm⟩
   clear h hD ih hn hm; have hlt : n * 56 ≤ 140737488355328 := i3; by_cases hbad : (l = true ∧ 0 < m) ∨ (l = false ∧ 0 < n)
   · have hsh : shp (.mk l b xs) = false := by
      unfold shp; rcases hbad with ⟨rfl, h⟩ | ⟨rfl, h⟩
      · cases hb : b with
        | nil => have := HN.out.2; rw [hb] at this; simp at this; omega
        | cons c r => simp
      · cases hx : xs with
        | nil => have := HN.out.1; rw [hx] at this; simp at this; omega
        | cons c r => simp
     have HS : Hid (shp (.mk l b xs) = false) := hsh; clear hsh; rcases hbad with ⟨rfl, h⟩ | ⟨rfl, h⟩
     · have h' : (0 : Int) < m := by omega
       go_enter Tryz.func68, Tryz.ntmps68
       go_wp2; refine ⟨rfl, by go_grown, fun h => ?_, fun _ => rfl⟩
       rw [HS.out] at h; cases h
     · have h' : (0 : Int) < n := by omega
       go_enter Tryz.func68, Tryz.ntmps68
       go_wp2; refine ⟨rfl, by go_grown, fun h => ?_, fun _ => rfl⟩
       rw [HS.out] at h; cases h
   · have hsh : shp (.mk l b xs) = shpL xs := by
      unfold shp; cases l with
      | true =>
        have : b = [] := List.eq_nil_of_length_eq_zero (by have := HN.out.2; by_cases h0 : 0 < m; exact absurd (Or.inl ⟨rfl, h0⟩) hbad; omega); subst this; simp
      | false =>
        have : xs = [] := List.eq_nil_of_length_eq_zero (by have := HN.out.1; by_cases h0 : 0 < n; exact absurd (Or.inr ⟨rfl, h0⟩) hbad; omega); subst this; simp
     have HS : Hid (shp (.mk l b xs) = shpL xs) := hsh; clear hsh; have hl1 : l = true → ¬ (0 : Int) < m := fun h => by by_cases h0 : 0 < m; exact absurd (Or.inl ⟨h, h0⟩) hbad; omega
     have hl2 : l = false → ¬ (0 : Int) < n := fun h => by by_cases h0 : 0 < n; exact absurd (Or.inr ⟨h, h0⟩) hbad; omega
     clear hbad; have hgo : ∀ (R : Ending → World → Prop), True := fun _ => trivial
     go_enter Tryz.func68, Tryz.ntmps68
     cases l with
     | true =>
       have h1 := hl1 rfl; clear hl1 hl2; obtain rfl : m = 0 := by omega
       have hB0 : Below w.heap.size w (w.alloc (.cells #[.bool true, .slice ab 0 cb, .slice ai n ci] 61)) := by go_grown
       go_wp2; go_loopw [27] (fun i wr => ∃ k : Nat, k ≤ n ∧ i = .int .i64 k ∧ shpL (xs.take k) = true ∧ Below w.heap.size w wr) (fun i _ => n - (intOf i).toNat)
       case atStart => exact ⟨0, Nat.zero_le _, rfl, by simp [shpL], hB0⟩
       case round =>
        clear hB0; obtain ⟨k, hk, rfl, hs, hb⟩ := hrel; by_cases hkl : k < n
        · obtain ⟨y, hy⟩ : ∃ y, xs[k]? = some y := ⟨_, List.getElem?_eq_getElem (by have := HN.out.1; omega)⟩
          obtain ⟨g, o, sb', si', rfl, hDg, c0, c1, c2, hbb, hii⟩ := HI.out.xs.at hy; obtain ⟨ab', cb', rfl⟩ := hbb.is.form; obtain ⟨ai', ci', rfl, j1, j2, j3⟩ := hii.form; have hgl := HD.out g hDg; have c0 : wr.cell? ⟨g, o + k * 3, none⟩ = some (.bool y.l) := (hb.cell (p := ⟨g, o + k * 3, none⟩) hgl).trans c0; have c1 : wr.cell? ⟨g, o + k * 3 + 1, none⟩ = some (.slice ab' y.b.length cb') := (hb.cell (p := ⟨g, o + k * 3 + 1, none⟩) hgl).trans c1; have c2 : wr.cell? ⟨g, o + k * 3 + 2, none⟩ = some (.slice ai' y.xs.length ci') := (hb.cell (p := ⟨g, o + k * 3 + 2, none⟩) hgl).trans c2; have hgw : g < wr.heap.size := Nat.lt_of_lt_of_le hgl hb.size; obtain ⟨yl, hyl⟩ : ∃ yl, yl = y.l := ⟨_, rfl⟩
          obtain ⟨yn, hyn⟩ : ∃ yn, yn = y.b.length := ⟨_, rfl⟩
          obtain ⟨ym, hym⟩ : ∃ ym, ym = y.xs.length := ⟨_, rfl⟩
          have hb2 : Below w.heap.size w (wr.alloc (.cells #[.bool yl, .slice ab' yn cb', .slice ai' ym ci'] 61)) := hb.alloc hb.size _; have hC := IH.out y (List.mem_of_getElem? hy) (wr.alloc (.cells #[.bool yl, .slice ab' yn cb', .slice ai' ym ci'] 61)) (.slice ab' y.b.length cb') (.slice ai' y.xs.length ci') D (ItV.mono ⟨hbb, hii⟩ (fun b hb' => hb2.block b (HD.out b hb')) (fun _ h => h)) (fun b hb' => Nat.lt_of_lt_of_le (HD.out b hb') hb2.size); rw [← hyl, ← hyn, ← hym] at hC; rw [← hyl] at c0; rw [← hyn] at c1; rw [← hym] at c2; have HC : Hid _ := hC; have HR : Hid (xs[k]? = some y ∧ shpL (xs.take k) = true ∧ Below w.heap.size w (wr.alloc (.cells #[.bool yl, .slice ab' yn cb', .slice ai' ym ci'] 61))) := ⟨hy, hs, hb2⟩
          have hki : (k : Int) < n := by omega
          clear hC hy hs hb hb2 hbb hii hDg hyl hyn hym; go_wp2_with fail; refine Calls.mono HC.out ?_; rintro e w2 ⟨hb2, he1, he2⟩; have hb3 : Below w.heap.size w w2 := HR.out.2.2.trans (hb2.mono HR.out.2.2.size); cases hsy : shp y with
          | false =>
            obtain rfl := he2 hsy; refine ⟨rfl, hb3, fun h => ?_, fun _ => rfl⟩; rw [HS.out, shpL_false HR.out.1 hsy] at h; cases h
          | true =>
            obtain rfl := he1 hsy; clear he1 he2 hb2; have H3 : Hid (Below w.heap.size w w2 ∧ shp y = true) := ⟨hb3, hsy⟩
            clear hb3 hsy; go_wp2; go_roundw
            case rel => exact ⟨k + 1, by omega, by go_num, by rw [shpL_take HR.out.1, HR.out.2.1, H3.out.2]; rfl, H3.out.1⟩
            case measure => simp [intOf]; omega
        · have HF : Hid (shpL xs = true ∧ Below w.heap.size w wr) := ⟨by rw [List.take_of_length_le (by have := HN.out.1; omega)] at hs; exact hs, hb⟩
          have hki : ¬ (k : Int) < n := by omega
          clear hs hb; go_wp2; go_end0; refine ⟨HF.out.2, fun _ => rfl, fun h => ?_⟩; rw [HS.out, HF.out.1] at h; cases h
     | false =>
       have h1 := hl2 rfl; clear hl1 hl2; obtain rfl : n = 0 := by omega
       have hB0 : Below w.heap.size w (w.alloc (.cells #[.bool false, .slice ab m cb, .slice ai 0 ci] 61)) := by go_grown
       have HF : Hid (shpL xs = true) := by
        have : xs = [] := List.eq_nil_of_length_eq_zero (by have := HN.out.1; omega); subst this; show shpL [] = true; simp [shpL]
       go_wp2; go_loopw [27] (fun i wr => i = .int .i64 0 ∧ Below w.heap.size w wr) (fun i _ => 0)
       case atStart => exact ⟨rfl, hB0⟩
       case round =>
        clear hB0; obtain ⟨rfl, hb⟩ := hrel; go_wp2; go_end0; refine ⟨hb, fun _ => rfl, fun h => ?_⟩; rw [HS.out, HF.out] at h; cases h
end Go.Proofs.YtojfcdjgcgnajaaGreat.Rl
