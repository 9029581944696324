/- RlH, RlI -/
import Derived.Test.YtojfcdjgcgnajaaGreatGRlG
import Derived.Defers
import Derived.Recover
namespace Go.Proofs.YtojfcdjgcgnajaaGreat.Rl
open Go.RowKit Go.Maps Go.Joins
set_option linter.unusedSimpArgs false
set_option linter.unusedVariables false
theorem take_snoc {α : Type} {xs : List α} {k : Nat} {x : α} (h : xs[k]? = some x) : xs.take (k + 1) = xs.take k ++ [x] := by rw [List.take_add_one, h]; rfl
theorem encL_take {xs : List Tr} {k : Nat} {x : Tr} (h : xs[k]? = some x) : encL (xs.take (k + 1)) = encL (xs.take k) ++ enc x := by
 rw [take_snoc h, encL_append]; congr 1; show enc x ++ [] = _; rw [List.append_nil]
theorem depL_take {xs : List Tr} {k : Nat} {x : Tr} (h : xs[k]? = some x) : depL (xs.take (k + 1)) = max (depL (xs.take k)) (dep x) := by
 rw [take_snoc h]; generalize xs.take k = ys; induction ys with
 | nil => simp [depL]
 | cons y ys ih => simp [depL, ih, Nat.max_assoc]
theorem encL_take_le (xs : List Tr) (k : Nat) : (encL (xs.take k)).length ≤ (encL xs).length := by
 have := encL_append (xs.take k) (xs.drop k); rw [List.take_append_drop] at this; rw [this, List.length_append]; omega
theorem depL_mem {xs : List Tr} {k : Nat} {x : Tr} (h : xs[k]? = some x) : dep x ≤ depL xs := (depL_le xs _).1 (Nat.le_refl _) x (List.mem_of_getElem? h)
def Bad (k : Nat) (bs : List Int) (x : Tr) : Prop := 16 < k + dep x ∨ 65536 < bs.length + (enc x).length
theorem off_to {w w' : World} {v v' : Value} (hg : w.grownBy w' v.ownBlock) (he : v'.ownBlock = v.ownBlock ∨ ∃ b, v'.ownBlock = some b ∧ w.heap.size ≤ b) : ∀ b, Off w v b → w'.heap[b]? = w.heap[b]? ∧ Off w' v' b := fun b hb =>
 ⟨hg.block b hb.1 (fun e => hb.2 e.symm), Nat.lt_of_lt_of_le hb.1 hg.size, fun e => by
  rcases he with he | ⟨c, he, hc⟩
  · rw [he] at e; exact hb.2 e
  · rw [he] at e; injection e with e; have := hb.1; omega⟩
structure ALoop (w wr : World) (base : Nat) (v u : Value) (bs : List Int) (xs : List Tr) (k j : Nat) : Prop where
 own : wr.ownsRow base 5 1 u (bs ++ encL (xs.take j)).length (vB (bs ++ encL (xs.take j)))
 gb : w.grownBy wr v.ownBlock
 off : u.ownBlock = v.ownBlock ∨ ∃ b, u.ownBlock = some b ∧ w.heap.size ≤ b
 len : bs.length + (encL (xs.take j)).length ≤ 65536
 dp : k + 1 + depL (xs.take j) ≤ 16
theorem off_comp {w w1 : World} {v u u' : Value} (h : u.ownBlock = v.ownBlock ∨ ∃ b, u.ownBlock = some b ∧ w.heap.size ≤ b) (hs : w.heap.size ≤ w1.heap.size) (h' : u'.ownBlock = u.ownBlock ∨ ∃ b, u'.ownBlock = some b ∧ w1.heap.size ≤ b) : u'.ownBlock = v.ownBlock ∨ ∃ b, u'.ownBlock = some b ∧ w.heap.size ≤ b := by
 rcases h' with h' | ⟨b, h', hb⟩
 · rw [h']; exact h
 · exact Or.inr ⟨b, h', by omega⟩
set_option maxRecDepth 100000 in
set_option maxHeartbeats 8000000 in
theorem appI_any (x : Tr) : ∀ (w : World) (base : Nat) (v sb si : Value) (bs : List Int) (k : Nat), w.ownsRow base 5 1 v bs.length (vB bs) → ItV w (Off w v) sb si x → bs.length ≤ 65536 → base ≤ w.heap.size → k ≤ 16 →
 Calls Tryz.prog 69 #[v, .agg #[.bool x.l, sb, si], .int .i64 k] w fun e w' => w.grownBy w' v.ownBlock ∧ (Bad k bs x → e = pan 3) ∧ (¬ Bad k bs x → ∃ v', e = .returned v' ∧ Out w w' base v v' (bs ++ enc x)) := by
 induction x using Tr.ind with
 | h l b xs ih =>
   intro w base v sb si bs k hown h hl hbase hk; obtain ⟨ab, cb, rfl⟩ : ∃ a cap, sb = .slice a b.length cap := h.b.is.form; obtain ⟨ai, ci, rfl, i1, i2, i3⟩ : ∃ a cap, si = .slice a xs.length cap ∧ xs.length ≤ cap ∧ cap ≤ 9223372036854775807 ∧ xs.length * 56 ≤ 140737488355328 := h.xs.form; show Calls Tryz.prog 69 #[v, .agg #[.bool l, .slice ab b.length cb, .slice ai xs.length ci], .int .i64 k] w _; obtain ⟨a, cap, rfl⟩ := row_form hown; have HI : Hid (ItV w (Off w (.slice a bs.length cap)) (.slice ab b.length cb) (.slice ai xs.length ci) (.mk l b xs)) := h; have HL : Hid (bs.length ≤ 65536) := hl; have IH : Hid _ := ih; obtain ⟨n, hn⟩ : ∃ n, n = xs.length := ⟨_, rfl⟩
   obtain ⟨m, hm⟩ : ∃ m, m = b.length := ⟨_, rfl⟩
   obtain ⟨p, hp⟩ : ∃ p, p = bs.length := ⟨_, rfl⟩
   rw [← hn, ← hm, ← hp] at HI; rw [← hn, ← hm, ← hp]; have HO : Hid (w.ownsRow base 5 1 (.slice a p cap) bs.length (vB bs)) := by rw [hp]; exact hown
   rw [← hn] at i1 i3; have HN : Hid (n = xs.length ∧ m = b.length ∧ p = bs.length) := ⟨hn, hm, hp⟩
   have hp2 : p ≤ 65536 := by omega
   clear h ih hn hm hown hl; have hB0 : Below w.heap.size w (w.alloc (.cells #[.bool l, .slice ab m cb, .slice ai n ci] 61)) := by go_grown
   have hO0 : (w.alloc (.cells #[.bool l, .slice ab m cb, .slice ai n ci] 61)).ownsRow base 5 1 (.slice a p cap) bs.length (vB bs) := HO.out.alloc _ ; have hI0 : ItV (w.alloc (.cells #[.bool l, .slice ab m cb, .slice ai n ci] 61)) (Off (w.alloc (.cells #[.bool l, .slice ab m cb, .slice ai n ci] 61)) (.slice a p cap)) (.slice ab m cb) (.slice ai n ci) (.mk l b xs) :=
    HI.out.mono (fun b hb => hB0.block b hb.1) (fun b hb => ⟨Nat.lt_of_lt_of_le hb.1 hB0.size, hb.2⟩)
   have H0 : Hid (Below w.heap.size w (w.alloc (.cells #[.bool l, .slice ab m cb, .slice ai n ci] 61)) ∧ (w.alloc (.cells #[.bool l, .slice ab m cb, .slice ai n ci] 61)).ownsRow base 5 1 (.slice a p cap) bs.length (vB bs) ∧ ItV (w.alloc (.cells #[.bool l, .slice ab m cb, .slice ai n ci] 61)) (Off (w.alloc (.cells #[.bool l, .slice ab m cb, .slice ai n ci] 61)) (.slice a p cap)) (.slice ab m cb) (.slice ai n ci) (.mk l b xs)) := ⟨hB0, hO0, hI0⟩
   clear hB0 hO0 hI0; cases l with
   | false =>
     have e0 : enc (.mk false b xs) = encS b := by unfold enc; simp
     have e1 : dep (.mk false b xs) = 0 := by unfold dep; simp
     have HE : Hid (enc (.mk false b xs) = encS b ∧ dep (.mk false b xs) = 0) := ⟨e0, e1⟩
     clear e0 e1 hp; go_enter Tryz.func69, Tryz.ntmps69; go_wp2_with fail; refine Calls.mono (appB_any (.slice a p cap) (.slice ab m cb) bs b H0.out.2.1 H0.out.2.2.b HL.out (by have := H0.out.1.size; omega)) ?_; rintro e w2 ⟨hg, he1, he2⟩; have hg2 : w.grownBy w2 (Value.slice a p cap).ownBlock := gb_comp (gb_of_below H0.out.1 _) hg (Or.inl rfl); by_cases hbad : 65536 < bs.length + (encS b).length
     · obtain rfl := he1 hbad
       refine ⟨rfl, hg2, fun _ => rfl, fun h => absurd (Or.inr (by rw [HE.out.1]; exact hbad)) h⟩
     · obtain ⟨v', rfl, ho', ha'⟩ := he2 hbad
       clear he1 he2; have H2 : Hid (w.grownBy w2 (Value.slice a p cap).ownBlock ∧ Out w w2 base (.slice a p cap) v' (bs ++ encS b) ∧ ¬ 65536 < bs.length + (encS b).length) := ⟨hg2, ⟨ho', by
        rcases ha' with h | ⟨c, h, hc⟩
        · exact Or.inl h
        · exact Or.inr ⟨c, h, by have := H0.out.1.size; omega⟩⟩, hbad⟩
       clear hg hg2 hbad ho' ha'; go_wp2; go_ret; refine ⟨H2.out.1, fun h => ?_, fun _ => ⟨v', rfl, by rw [HE.out.1]; exact H2.out.2.1⟩⟩; exfalso; rcases h with h | h
       · rw [HE.out.2] at h; omega
       · rw [HE.out.1] at h; exact H2.out.2.2 h
   | true =>
     have e0 : enc (.mk true b xs) = headB 192 (encL xs).length ++ encL xs := by unfold enc; simp
     have e1 : dep (.mk true b xs) = depL xs + 1 := by unfold dep; simp
     have HE : Hid (enc (.mk true b xs) = headB 192 (encL xs).length ++ encL xs ∧ dep (.mk true b xs) = depL xs + 1) := ⟨e0, e1⟩
     clear e0 e1 hp; by_cases hk16 : k = 16
     · subst hk16
       go_enter Tryz.func69, Tryz.ntmps69
       go_wp2; refine ⟨rfl, gb_of_below H0.out.1 _, fun _ => rfl, fun h => absurd (Or.inl (by rw [HE.out.2]; omega)) h⟩
     · have hk' : ¬ (16 : Int) ≤ k := by omega
       go_enter Tryz.func69, Tryz.ntmps69
       go_wp2_with fail
       have hA0 : ALoop w (w.alloc (.cells #[.bool true, .slice ab m cb, .slice ai n ci] 61)) base (.slice a p cap) (.slice a p cap) bs xs k 0 := ⟨by have := H0.out.2.1; simpa [encL] using this, gb_of_below H0.out.1 _, Or.inl rfl, by simpa [encL] using HL.out, by simp [depL]; omega⟩
       go_loopw [0, 25] (fun u i wr => ∃ j : Nat, j ≤ n ∧ i = .int .i64 j ∧ ALoop w wr base (.slice a p cap) u bs xs k j) (fun _ i _ => n - (intOf i).toNat)
       case atStart => exact ⟨0, Nat.zero_le _, rfl, hA0⟩
       case round =>
        clear hA0; obtain ⟨j, hj, rfl, hA⟩ := hrel; obtain ⟨au, cu, hu⟩ := row_form hA.own; by_cases hjl : j < n
        · obtain ⟨y, hy⟩ : ∃ y, xs[j]? = some y := ⟨_, List.getElem?_eq_getElem (by have := HN.out.1; omega)⟩
          obtain ⟨g, o, sb', si', rfl, hDg, c0, c1, c2, hbb, hii⟩ := HI.out.xs.at hy; obtain ⟨ab', cb', rfl⟩ := hbb.is.form; obtain ⟨ai', ci', rfl, j1, j2, j3⟩ := hii.form; have hto := off_to hA.gb hA.off; have c0 : wr.cell? ⟨g, o + j * 3, none⟩ = some (.bool y.l) := (World.cell?_of_block (a := ⟨g, o + j * 3, none⟩) (hto g hDg).1).trans c0; have c1 : wr.cell? ⟨g, o + j * 3 + 1, none⟩ = some (.slice ab' y.b.length cb') := (World.cell?_of_block (a := ⟨g, o + j * 3 + 1, none⟩) (hto g hDg).1).trans c1; have c2 : wr.cell? ⟨g, o + j * 3 + 2, none⟩ = some (.slice ai' y.xs.length ci') := (World.cell?_of_block (a := ⟨g, o + j * 3 + 2, none⟩) (hto g hDg).1).trans c2; have hgw : g < wr.heap.size := (hto g hDg).2.1; have hyv : ItV wr (Off wr u0) (.slice ab' y.b.length cb') (.slice ai' y.xs.length ci') y := ItV.mono ⟨hbb, hii⟩ (fun b hb' => (hto b hb').1) (fun b hb' => (hto b hb').2); subst hu; obtain ⟨yl, hyl⟩ : ∃ yl, yl = y.l := ⟨_, rfl⟩
          obtain ⟨yn, hyn⟩ : ∃ yn, yn = y.b.length := ⟨_, rfl⟩
          obtain ⟨ym, hym⟩ : ∃ ym, ym = y.xs.length := ⟨_, rfl⟩
          obtain ⟨q, hq⟩ : ∃ q, q = (bs ++ encL (xs.take j)).length := ⟨_, rfl⟩
          have hb2 : Below wr.heap.size wr (wr.alloc (.cells #[.bool yl, .slice ab' yn cb', .slice ai' ym ci'] 61)) := by go_grown
          have hC := IH.out y (List.mem_of_getElem? hy) (wr.alloc (.cells #[.bool yl, .slice ab' yn cb', .slice ai' ym ci'] 61)) base (.slice au (bs ++ encL (xs.take j)).length cu) (.slice ab' y.b.length cb') (.slice ai' y.xs.length ci') (bs ++ encL (xs.take j)) (k + 1) (hA.own.alloc _) (hyv.mono (fun b hb' => hb2.block b hb'.1) (fun b hb' => ⟨Nat.lt_of_lt_of_le hb'.1 hb2.size, hb'.2⟩)) (by rw [List.length_append]; exact hA.len) (by have := hA.gb.size; have := hb2.size; omega) (by omega); rw [← hyl, ← hyn, ← hym, ← hq] at hC; rw [← hyl] at c0; rw [← hyn] at c1; rw [← hym] at c2; have hA' := hA; rw [← hq] at hA' ⊢; have HC : Hid _ := hC; have HR : Hid (xs[j]? = some y ∧ ALoop w wr base (.slice a p cap) (.slice au q cu) bs xs k j ∧ Below wr.heap.size wr (wr.alloc (.cells #[.bool yl, .slice ab' yn cb', .slice ai' ym ci'] 61))) := ⟨hy, hA', hb2⟩
          have hki : (j : Int) < n := by omega
          clear hC hy hA hA' hb2 hbb hii hDg hyl hyn hym hto hyv hq; go_wp2_with fail; refine Calls.mono HC.out ?_; rintro e w2 ⟨hg2, he1, he2⟩; have hg3 : w.grownBy w2 (Value.slice a p cap).ownBlock := gb_comp (gb_comp HR.out.2.1.gb (gb_of_below HR.out.2.2 (Value.slice au q cu).ownBlock) HR.out.2.1.off) hg2 HR.out.2.1.off; by_cases hbad : Bad (k + 1) (bs ++ encL (xs.take j)) y
          · obtain rfl := he1 hbad
            refine ⟨rfl, hg3, fun _ => rfl, fun h => absurd ?_ h⟩; rcases hbad with hbad | hbad
            · left
              rw [HE.out.2]; have := depL_mem HR.out.1; omega
            · right
              have h1 := encL_take_le xs (j + 1); rw [encL_take HR.out.1] at h1; rw [HE.out.1]; simp only [List.length_append] at *; omega
          · obtain ⟨v', rfl, ho', ha'⟩ := he2 hbad
            have hnb : ¬ 16 < k + 1 + dep y ∧ ¬ 65536 < (bs ++ encL (xs.take j)).length + (enc y).length := ⟨fun h => hbad (Or.inl h), fun h => hbad (Or.inr h)⟩
            clear he1 he2 hbad; have H2 : Hid (ALoop w w2 base (.slice a p cap) v' bs xs k (j + 1)) := ⟨by rw [encL_take HR.out.1, ← List.append_assoc]; exact ho', hg3, off_comp HR.out.2.1.off (by have := HR.out.2.1.gb.size; have := HR.out.2.2.size; omega) ha', by rw [encL_take HR.out.1]; have := hnb.2; simp only [List.length_append] at *; omega, by rw [depL_take HR.out.1]; have := hnb.1; have := HR.out.2.1.dp; omega⟩
            clear hg2 hg3 ho' ha' hnb; go_wp2; go_roundw
            case rel => exact ⟨j + 1, by omega, by go_num, H2.out⟩
            case measure => simp [intOf]; omega
        · have hjn : xs.take j = xs := List.take_of_length_le (by have := HN.out.1; omega)
          subst hu; obtain ⟨q1, q2, q3, q4, q5⟩ := hA; rw [hjn] at q1 q4 q5 q3 ⊢; obtain ⟨L, hL⟩ : ∃ L, L = (bs ++ encL xs).length := ⟨_, rfl⟩
          obtain ⟨E, hE⟩ : ∃ E, E = (encL xs).length := ⟨_, rfl⟩
          have hLp : L = p + E := by rw [hL, List.length_append, ← HN.out.2.2, hE]
          have q1' : wr.ownsRow base 5 1 (.slice au L cu) (bs ++ encL xs).length (vB (bs ++ encL xs)) := by rw [hL]; exact q1
          rw [← hL] at q3 ⊢; have HF : Hid (wr.ownsRow base 5 1 (.slice au L cu) (bs ++ encL xs).length (vB (bs ++ encL xs)) ∧ w.grownBy wr (Value.slice a p cap).ownBlock ∧ ((Value.slice au L cu).ownBlock = (Value.slice a p cap).ownBlock ∨ ∃ b, (Value.slice au L cu).ownBlock = some b ∧ w.heap.size ≤ b) ∧ L ≤ 65536 ∧ k + 1 + depL xs ≤ 16 ∧ E = (encL xs).length ∧ L = p + E) := ⟨q1', q2, q3, by rw [hLp, HN.out.2.2, hE]; exact q4, q5, hE, hLp⟩
          have hki : ¬ (j : Int) < n := by omega
          have hsub : (L : Int) - p = (E : Int) := by omega
          have hLb : L ≤ 65536 := HF.out.2.2.2.1; clear q1 q1' q2 q3 q4 q5 hL hE hLp hjn; have T1 : Hid True := trivial; go_wp2_with (first
           | (have _ := T1
              go_at_call 107
              clear T1; refine Calls.mono (head_any 192 (Or.inr rfl) E (by have := HF.out.2.2.2.2.2.2; omega)) ?_; rintro e w2 ⟨hv, rfl, ho2, hb2⟩; obtain ⟨K, hK⟩ : ∃ K, K = (headB 192 E).length := ⟨_, rfl⟩
              have H2 : Hid (w2.ownsRow wr.heap.size 5 1 hv (headB 192 E).length (vB (headB 192 E)) ∧ Below wr.heap.size wr w2) := ⟨ho2, hb2⟩
              have T2 : Hid True := trivial; clear ho2 hb2 hK)
           | (have _ := T2
              go_at_call 106
              clear T2; refine Calls.mono (insert_any (base := base) (base2 := wr.heap.size) (.slice au L cu) hv (bs ++ encL xs) (headB 192 E) p (by rw [List.length_append, ← HN.out.2.2]; omega) (ownsRow_heap HF.out.1 (fun b hb => H2.out.2.block b (HF.out.1.lt b hb).2)) H2.out.1 (fun b hb e => by have h1 := (H2.out.1.lt b hb).1; have h2 := (HF.out.1.lt b e).2; omega) (headB_pos 192 E) (by
               unfold headB; split
               · simp
               · have := shortB_len 3 E (by have := HF.out.2.2.2.2.2.2; omega)
                 simp
                 omega) (by rw [List.length_append, ← HN.out.2.2, ← HF.out.2.2.2.2.2.1]; have := HF.out.2.2.2.2.2.2; omega) (by have := HF.out.2.1.size; have := H2.out.2.size; omega)) ?_
              rintro e w3 ⟨v3, rfl, hO3, hg3⟩; have hbs : (bs ++ encL xs).take p ++ headB 192 E ++ (bs ++ encL xs).drop p = bs ++ enc (.mk true b xs) := by
               rw [HN.out.2.2, List.take_left, List.drop_left, HE.out.1, HF.out.2.2.2.2.2.1, List.append_assoc]
              rw [hbs] at hO3; obtain ⟨a3, c3, rfl⟩ := row_form hO3.1; obtain ⟨M, hM⟩ : ∃ M, M = (bs ++ enc (.mk true b xs)).length := ⟨_, rfl⟩
              rw [← hM] at hO3 ⊢; have hgb : w.grownBy w3 (Value.slice a p cap).ownBlock := gb_comp (gb_comp HF.out.2.1 (gb_of_below H2.out.2 (Value.slice au L cu).ownBlock) HF.out.2.2.1) hg3 HF.out.2.2.1; have H3 : Hid (Out w w3 base (.slice a p cap) (.slice a3 M c3) (bs ++ enc (.mk true b xs)) ∧ w.grownBy w3 (Value.slice a p cap).ownBlock ∧ M = (bs ++ enc (.mk true b xs)).length) := ⟨⟨hO3.1, off_comp HF.out.2.2.1 (by have := HF.out.2.1.size; have := H2.out.2.size; omega) hO3.2⟩, hgb, hM⟩
              have T3 : Hid True := trivial; clear hbs hO3 hM hgb hg3)
           | (have _ := T3
              go_at_call 105
              clear T3; by_cases hfit : 65536 < M))
          · refine Calls.mono (fitting_no a3 M c3 hfit) ?_
            rintro e w4 ⟨rfl, hw4⟩; obtain rfl := hw4.symm; refine ⟨rfl, H3.out.2.1, fun _ => rfl, fun h => absurd (Or.inr ?_) h⟩; have := H3.out.2.2; rw [List.length_append] at this; omega
          · refine Calls.mono (fitting_ok a3 M c3 (by omega)) ?_
            rintro e w4 ⟨rfl, hw4⟩; obtain rfl := hw4.symm; go_wp2; go_ret; refine ⟨H3.out.2.1, fun h => ?_, fun _ => ⟨_, rfl, H3.out.1⟩⟩; exfalso; rcases h with h | h
            · rw [HE.out.2] at h
              have := HF.out.2.2.2.2.1; omega
            · have := H3.out.2.2
              rw [List.length_append] at this; omega
end Go.Proofs.YtojfcdjgcgnajaaGreat.Rl
namespace Go.Proofs.YtojfcdjgcgnajaaGreat.Rl
open Go.RowKit Go.Maps Go.Joins
set_option linter.unusedSimpArgs false
set_option linter.unusedVariables false
set_option maxRecDepth 100000 in
set_option maxHeartbeats 2000000 in
theorem catch29 (p q : Addr) (v0 e0 : Value) (c : Int) (older : List PanicEntry) (w : World) (hc : w.cell? p = some v0) (hz : w.frozen? p = false) (hc' : w.cell? q = some e0) (hz' : w.frozen? q = false) (hne : p.block ≠ q.block) (hv0 : ∃ a n k, v0 = .slice a n k) (he0 : ∃ x, e0 = .int .i64 x) :
 CallsD Tryz.prog 67 #[.pointer (some p), .pointer (some q)] (.panicking ({ v := .iface 31 (.int .i64 c), recovered := false } :: older)) w fun e u' w' =>
  e = .returned (.tuple #[]) ∧ u' = .panicking ({ v := .iface 31 (.int .i64 c), recovered := true } :: older) ∧ w' = (w.setCell p (.slice none 0 0)).setCell q (.int .i64 c) := by
 obtain ⟨a, n, k, rfl⟩ := hv0; obtain ⟨x, rfl⟩ := he0; have hta : ∀ w : World, (Instr.typeAssert (.iface 31 (.int .i64 c)) 20 31 true).run Tryz.prog w = .ok (.tuple #[.int .i64 c, .bool true]) w := fun w => by kernel_rfl
 refine callsD_of_wpS Tryz.func67 rfl fun c₀ cs hu => ?_
 simp only [Tryz.ntmps67, List.size_toArray, List.length_cons, List.length_nil, Nat.reduceAdd, Nat.reduceSub, Array.replicate_succ, Array.replicate_zero, List.push_toArray, List.append_toArray, List.nil_append, List.cons_append]; apply wpS_seq; apply wpS_region; simp [wpOpsS, go_sem, recoverD, hu, hta, Exit.thenS]; have hq1 : (w.setCell p (.slice none 0 0)).cell? q = some (.int .i64 x) := by rw [World.cell?_setCell_far _ _ _ _ hne]; exact hc'
 have hq2 : (w.setCell p (.slice none 0 0)).frozen? q = false := by simpa using hz'
 refine wpS_of_wp ?_; go_wp2; exact ⟨rfl, _, rfl, _, results_none rfl _ _ _, rfl, rfl, rfl⟩
set_option maxRecDepth 100000 in
set_option maxHeartbeats 2000000 in
theorem idle29 (p q : Addr) (w : World) :
 CallsD Tryz.prog 67 #[.pointer (some p), .pointer (some q)] .returning w fun e u' w' => e = .returned (.tuple #[]) ∧ u' = .returning ∧ w' = w := by
 have hta : ∀ w : World, (Instr.typeAssert .nilIface 20 31 true).run Tryz.prog w = .ok (.tuple #[.int .i64 0, .bool false]) w := fun w => by kernel_rfl
 refine callsD_of_wpS Tryz.func67 rfl fun c₀ cs hu => ?_
 simp only [Tryz.ntmps67, List.size_toArray, List.length_cons, List.length_nil, Nat.reduceAdd, Nat.reduceSub, Array.replicate_succ, Array.replicate_zero, List.push_toArray, List.append_toArray, List.nil_append, List.cons_append]; apply wpS_seq; apply wpS_region; simp [wpOpsS, go_sem, recoverD, hu, hta, Exit.thenS]; refine wpS_of_wp ?_; go_wp2; exact ⟨rfl, c₀.mode, rfl, _, results_none rfl _ _ _, rfl, hu, rfl⟩
def encE (x : Tr) : Int := if shp x = false then 1 else if 16 < dep x ∨ 65536 < (enc x).length then 3 else 0
def encR (x : Tr) : List Int := if encE x = 0 then enc x else []
set_option maxRecDepth 100000 in
set_option maxHeartbeats 8000000 in
theorem encode_any (x : Tr) (w : World) (sb si : Value) (D : Nat → Prop) (h : ItV w D sb si x) (hD : ∀ b, D b → b < w.heap.size) :
 Calls Tryz.prog 40 #[.agg #[.bool x.l, sb, si]] w fun e w' => Below w.heap.size w w' ∧ ∃ v, e = .returned (.tuple #[v, .int .i64 (encE x)]) ∧ w'.ownsRow w.heap.size 5 1 v (encR x).length (vB (encR x)) := by
 have hmf : ∀ (fn : Fn) (first cap : Array Value) (w : World), (Instr.makeFunc fn first cap).run Tryz.prog w = .ok (.func fn first cap) w := fun _ _ _ _ => rfl
 obtain ⟨ab, cb, rfl⟩ := h.b.is.form; obtain ⟨ai, ci, rfl, i1, i2, i3⟩ := h.xs.form; have HI : Hid (ItV w D (.slice ab x.b.length cb) (.slice ai x.xs.length ci) x) := h; obtain ⟨l, hl⟩ : ∃ l, l = x.l := ⟨_, rfl⟩
 obtain ⟨m, hm⟩ : ∃ m, m = x.b.length := ⟨_, rfl⟩
 obtain ⟨n, hn⟩ : ∃ n, n = x.xs.length := ⟨_, rfl⟩
 rw [← hm, ← hn] at HI; rw [← hl, ← hm, ← hn]; have HL : Hid (l = x.l) := hl; have HD : Hid (∀ b, D b → b < w.heap.size) := hD; clear h hD hl hm hn i1 i2 i3; go_enter_defers Tryz.func40, Tryz.ntmps40; go_wp2_with fail; have hh1 : ∀ (A B C : Obj), (((w.alloc A).alloc B).alloc C).heap[w.heap.size]? = some A := fun A B C => by
  rw [heap_alloc_old _ _ (by simp; omega), heap_alloc_old _ _ (by simp)]; exact heap_alloc_new _ _
 have hh2 : ∀ (A B C : Obj), (((w.alloc A).alloc B).alloc C).heap[w.heap.size + 1]? = some B := fun A B C => by
  rw [heap_alloc_old _ _ (by simp)]; have := heap_alloc_new (w.alloc A) B; simpa using this
 have hh3 : ∀ (A B C : Obj), (((w.alloc A).alloc B).alloc C).heap[w.heap.size + 1 + 1]? = some C := fun A B C => by
  have := heap_alloc_new ((w.alloc A).alloc B) C; simpa using this
 have B0 : Hid ((((w.alloc (.cells #[.bool l, .slice ab m cb, .slice ai n ci] 61)).alloc (.cells #[.slice none 0 0] 28)).alloc (.cells #[.int .i64 0] 31)).heap[w.heap.size]? = some (.cells #[.bool l, .slice ab m cb, .slice ai n ci] 61) ∧ (((w.alloc (.cells #[.bool l, .slice ab m cb, .slice ai n ci] 61)).alloc (.cells #[.slice none 0 0] 28)).alloc (.cells #[.int .i64 0] 31)).heap[w.heap.size + 1]? = some (.cells #[.slice none 0 0] 28) ∧ (((w.alloc (.cells #[.bool l, .slice ab m cb, .slice ai n ci] 61)).alloc (.cells #[.slice none 0 0] 28)).alloc (.cells #[.int .i64 0] 31)).heap[w.heap.size + 1 + 1]? = some (.cells #[.int .i64 0] 31) ∧ Below w.heap.size w (((w.alloc (.cells #[.bool l, .slice ab m cb, .slice ai n ci] 61)).alloc (.cells #[.slice none 0 0] 28)).alloc (.cells #[.int .i64 0] 31)) ∧ w.heap.size + 3 ≤ (((w.alloc (.cells #[.bool l, .slice ab m cb, .slice ai n ci] 61)).alloc (.cells #[.slice none 0 0] 28)).alloc (.cells #[.int .i64 0] 31)).heap.size) := ⟨hh1 _ _ _, hh2 _ _ _, hh3 _ _ _, by go_grown, by simp⟩
 clear hh1 hh2 hh3; generalize ((w.alloc (.cells #[.bool l, .slice ab m cb, .slice ai n ci] 61)).alloc (.cells #[.slice none 0 0] 28)).alloc (.cells #[.int .i64 0] 31) = w0 at B0 ⊢; have hI0 : ItV w0 D (.slice ab m cb) (.slice ai n ci) x := HI.out.mono (fun b hb => B0.out.2.2.2.1.block b (HD.out b hb)) (fun _ h => h); have hD0 : ∀ b, D b → b < w0.heap.size := fun b hb => Nat.lt_of_lt_of_le (HD.out b hb) B0.out.2.2.2.1.size
 have hC := check_any x w0 _ _ D hI0 hD0; rw [← HL.out] at hC
 -- the end with an error
 have hend : ∀ (c : Int) (w1 : World), Below w0.heap.size w0 w1 → encE x = c → c ≠ 0 → ∀ tmps : Array Value, tmps.size = 9 → tmps[2]? = some (.pointer (some ⟨w.heap.size + 1, 0, none⟩)) → tmps[3]? = some (.pointer (some ⟨w.heap.size + 1 + 1, 0, none⟩)) →
  bodyPostD Tryz.prog Tryz.f40 (fun e w' => Below w.heap.size w w' ∧ ∃ v, e = Ending.returned (Value.tuple #[v, Value.int IntKind.i64 (encE x)]) ∧ w'.ownsRow w.heap.size 5 1 v (encR x).length (vB (encR x))) (Exit.panic [{ v := .iface 31 (.int .i64 c), recovered := false }]) { tmps := tmps, defers := [{ target := Target.fn (Fn.func 67) #[Value.pointer (some { block := w.heap.size + 1, off := 0 }), Value.pointer (some { block := w.heap.size + 1 + 1, off := 0 })], args := #[] }] } w1 := by
  intro c w1 hb1 hE hc0 tmps ht0 ht2 ht3; have hk1 : w1.heap[w.heap.size + 1]? = some (.cells #[.slice none 0 0] 28) := (hb1.block _ (by have := B0.out.2.2.2.2; omega)).trans B0.out.2.1; have hk2 : w1.heap[w.heap.size + 1 + 1]? = some (.cells #[.int .i64 0] 31) := (hb1.block _ (by have := B0.out.2.2.2.2; omega)).trans B0.out.2.2.1; have c1 : w1.cell? ⟨w.heap.size + 1, 0, none⟩ = some (.slice none 0 0) := (cell_of_block hk1 0).trans rfl; have c2 : w1.cell? ⟨w.heap.size + 1 + 1, 0, none⟩ = some (.int .i64 0) := (cell_of_block hk2 0).trans rfl; refine leaves_cons (f := 67) (args := #[.pointer (some ⟨w.heap.size + 1, 0, none⟩), .pointer (some ⟨w.heap.size + 1 + 1, 0, none⟩)]) (by simp) (by simp [go_sem]) ?_; refine (catch29 ⟨w.heap.size + 1, 0, none⟩ ⟨w.heap.size + 1 + 1, 0, none⟩ _ _ c [] w1 c1 (unfrozen_of_block hk1 0) c2 (unfrozen_of_block hk2 0) (by simp) ⟨_, _, _, rfl⟩ ⟨_, rfl⟩).mono ?_; rintro e u' w2 ⟨rfl, rfl, rfl⟩; have d1 : ((w1.setCell ⟨w.heap.size + 1, 0, none⟩ (.slice none 0 0)).setCell ⟨w.heap.size + 1 + 1, 0, none⟩ (.int .i64 c)).cell? ⟨w.heap.size + 1, 0, none⟩ = some (.slice none 0 0) := by
   rw [World.cell?_setCell_far _ _ _ _ (by show w.heap.size + 1 + 1 ≠ w.heap.size + 1; omega)]; exact World.cell?_setCell_same' _ _ _ (by rw [c1]; rfl)
  have d2 : ((w1.setCell ⟨w.heap.size + 1, 0, none⟩ (.slice none 0 0)).setCell ⟨w.heap.size + 1 + 1, 0, none⟩ (.int .i64 c)).cell? ⟨w.heap.size + 1 + 1, 0, none⟩ = some (.int .i64 c) := by
   refine World.cell?_setCell_same' _ _ _ ?_; rw [World.cell?_setCell_far _ _ _ _ (by show w.heap.size + 1 ≠ w.heap.size + 1 + 1; omega), c2]; rfl
  have hbw : Below w.heap.size w ((w1.setCell ⟨w.heap.size + 1, 0, none⟩ (.slice none 0 0)).setCell ⟨w.heap.size + 1 + 1, 0, none⟩ (.int .i64 c)) := by
   have hb2 : Below w.heap.size w w1 := B0.out.2.2.2.1.trans (hb1.mono B0.out.2.2.2.1.size); exact (hb2.setCell (by show w.heap.size ≤ w.heap.size + 1; omega) _).setCell (by show w.heap.size ≤ w.heap.size + 1 + 1; omega) _
  generalize (w1.setCell ⟨w.heap.size + 1, 0, none⟩ (.slice none 0 0)).setCell ⟨w.heap.size + 1 + 1, 0, none⟩ (.int .i64 c) = w2 at d1 d2 hbw; simp [Leaves, settle, results, Tryz.results40, go_sem, ht2, ht3, d1, d2]; refine ⟨hbw, _, ⟨rfl, hE.symm⟩, ?_⟩; have : encR x = [] := by unfold encR; rw [if_neg (by rw [hE]; exact hc0)]
  rw [this]; exact World.ownsRow_nil _ _ _ _
 have HEnd : Hid _ := hend; clear hend; refine Calls.mono hC ?_; clear hC; rintro e w1 ⟨hb1, he1, he2⟩; cases hs : shp x with
 | false =>
   obtain rfl := he2 hs; exact HEnd.out 1 w1 hb1 (by unfold encE; rw [if_pos hs]) (by decide) _ rfl rfl rfl
 | true =>
   obtain rfl := he1 hs; clear he1 he2; have hk0 : w1.heap[w.heap.size]? = some (.cells #[.bool l, .slice ab m cb, .slice ai n ci] 61) := (hb1.block _ (by have := B0.out.2.2.2.2; omega)).trans B0.out.1; have c0 : w1.cell? ⟨w.heap.size, 0, none⟩ = some (.bool l) := (cell_of_block hk0 0).trans rfl; have c1 : w1.cell? ⟨w.heap.size, 1, none⟩ = some (.slice ab m cb) := (cell_of_block hk0 1).trans rfl; have c2 : w1.cell? ⟨w.heap.size, 2, none⟩ = some (.slice ai n ci) := (cell_of_block hk0 2).trans rfl; have H1 : Hid (Below w0.heap.size w0 w1 ∧ shp x = true) := ⟨hb1, hs⟩
   have hA := appI_any x w1 w1.heap.size (.slice none 0 0) (.slice ab m cb) (.slice ai n ci) [] 0 (World.ownsRow_nil _ _ _ _) (hI0.mono (fun b hb => hb1.block b (hD0 b hb)) (fun b hb => ⟨Nat.lt_of_lt_of_le (hD0 b hb) hb1.size, by simp [Value.ownBlock]⟩)) (by simp) (Nat.le_refl _) (by decide); rw [← HL.out] at hA; have HA : Hid _ := hA; clear hA hI0 hD0 hb1 hs hk0; go_wp2_with fail; refine Calls.mono HA.out ?_; rintro e w2 ⟨hg, he1, he2⟩; have hb2 : Below w1.heap.size w1 w2 := ⟨hg.os, hg.tape, hg.output, hg.size, fun k hk => hg.block k hk (by simp [Value.ownBlock])⟩
   have hb02 : Below w0.heap.size w0 w2 := H1.out.1.trans (hb2.mono H1.out.1.size); by_cases hbad : Bad 0 [] x
   · obtain rfl := he1 hbad
     refine HEnd.out 3 w2 hb02 ?_ (by decide) _ rfl rfl rfl; unfold encE; rw [if_neg (by rw [H1.out.2]; simp), if_pos]; rcases hbad with h | h
     · exact Or.inl (by simpa using h)
     · exact Or.inr (by simpa using h)
   · obtain ⟨v, rfl, ho, ha⟩ := he2 hbad
     have hE : encE x = 0 := by
      unfold encE; rw [if_neg (by rw [H1.out.2]; simp), if_neg]; rintro (h | h)
      · exact hbad (Or.inl (by simpa using h))
      · exact hbad (Or.inr (by simpa using h))
     have hR : encR x = enc x := by unfold encR; rw [if_pos hE]
     obtain ⟨av, cv, rfl⟩ := row_form ho; rw [List.nil_append] at ho ⊢; obtain ⟨L, hL⟩ : ∃ L, L = (enc x).length := ⟨_, rfl⟩
     have hk1 : w2.heap[w.heap.size + 1]? = some (.cells #[.slice none 0 0] 28) := (hb02.block _ (by have := B0.out.2.2.2.2; omega)).trans B0.out.2.1; have hk2 : w2.heap[w.heap.size + 1 + 1]? = some (.cells #[.int .i64 0] 31) := (hb02.block _ (by have := B0.out.2.2.2.2; omega)).trans B0.out.2.2.1; have c1 : w2.cell? ⟨w.heap.size + 1, 0, none⟩ = some (.slice none 0 0) := (cell_of_block hk1 0).trans rfl; have c2 : w2.cell? ⟨w.heap.size + 1 + 1, 0, none⟩ = some (.int .i64 0) := (cell_of_block hk2 0).trans rfl; have z1 := unfrozen_of_block hk1 0; have z2 := unfrozen_of_block hk2 0; have d2 : (w2.setCell ⟨w.heap.size + 1, 0, none⟩ (.slice av L cv)).cell? ⟨w.heap.size + 1 + 1, 0, none⟩ = some (.int .i64 0) := by
      rw [World.cell?_setCell_far _ _ _ _ (by show w.heap.size + 1 ≠ w.heap.size + 1 + 1; omega)]; exact c2
     have H2 : Hid (w2.ownsRow w1.heap.size 5 1 (.slice av L cv) (enc x).length (vB (enc x)) ∧ Below w0.heap.size w0 w2 ∧ encE x = 0 ∧ encR x = enc x) := ⟨by rw [hL]; exact ho, hb02, hE, hR⟩
     rw [← hL]; clear hg he1 he2 hb2 hb02 hbad ho ha hE hR hL hk1 hk2; go_wp2; refine leaves_cons (f := 67) (args := #[.pointer (some ⟨w.heap.size + 1, 0, none⟩), .pointer (some ⟨w.heap.size + 1 + 1, 0, none⟩)]) (by simp) (by simp [go_sem]) ?_; refine (idle29 _ _ _).mono ?_; rintro e u' w3 ⟨rfl, rfl, rfl⟩; have d3 : ((w2.setCell ⟨w.heap.size + 1, 0, none⟩ (.slice av L cv)).setCell ⟨w.heap.size + 1 + 1, 0, none⟩ (.int .i64 0)).cell? ⟨w.heap.size + 1, 0, none⟩ = some (.slice av L cv) := by
      rw [World.cell?_setCell_far _ _ _ _ (by show w.heap.size + 1 + 1 ≠ w.heap.size + 1; omega)]; exact World.cell?_setCell_same' _ _ _ (by rw [c1]; rfl)
     have d4 : ((w2.setCell ⟨w.heap.size + 1, 0, none⟩ (.slice av L cv)).setCell ⟨w.heap.size + 1 + 1, 0, none⟩ (.int .i64 0)).cell? ⟨w.heap.size + 1 + 1, 0, none⟩ = some (.int .i64 0) := World.cell?_setCell_same' _ _ _ (by rw [d2]; rfl); have hb3 : Below w.heap.size w ((w2.setCell ⟨w.heap.size + 1, 0, none⟩ (.slice av L cv)).setCell ⟨w.heap.size + 1 + 1, 0, none⟩ (.int .i64 0)) := ((B0.out.2.2.2.1.trans (H2.out.2.1.mono B0.out.2.2.2.1.size)).setCell (by show w.heap.size ≤ w.heap.size + 1; omega) _).setCell (by show w.heap.size ≤ w.heap.size + 1 + 1; omega) _; have hw1 : w.heap.size + 3 ≤ w1.heap.size := by have := B0.out.2.2.2.2; have := H1.out.1.size; omega
     have ho3 : ((w2.setCell ⟨w.heap.size + 1, 0, none⟩ (.slice av L cv)).setCell ⟨w.heap.size + 1 + 1, 0, none⟩ (.int .i64 0)).ownsRow w.heap.size 5 1 (.slice av L cv) (enc x).length (vB (enc x)) := by
      refine ownsRow_heap (ownsRow_le H2.out.1 (by omega)) (fun b hb => ?_); have := (H2.out.1.lt b hb).1; rw [Below.heap_setCell _ _ _ _ (by show b ≠ w.heap.size + 1 + 1; omega), Below.heap_setCell _ _ _ _ (by show b ≠ w.heap.size + 1; omega)]
     generalize (w2.setCell ⟨w.heap.size + 1, 0, none⟩ (.slice av L cv)).setCell ⟨w.heap.size + 1 + 1, 0, none⟩ (.int .i64 0) = w4 at d3 d4 hb3 ho3; simp [Leaves, settle, results, Tryz.results40, go_sem, d3, d4]; refine ⟨hb3, _, ⟨rfl, H2.out.2.2.1.symm⟩, ?_⟩; rw [H2.out.2.2.2]; exact ho3
end Go.Proofs.YtojfcdjgcgnajaaGreat.Rl
