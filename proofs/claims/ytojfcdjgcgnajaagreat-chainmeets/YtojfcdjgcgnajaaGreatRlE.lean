/- rlp: slices.Insert of bytes. -/
import Derived.Test.YtojfcdjgcgnajaaGreatGCM
import Derived.Test.YtojfcdjgcgnajaaGreatGRlD
namespace Go.Proofs.YtojfcdjgcgnajaaGreat.Rl
open Go.RowKit Go.Maps Go.Joins
set_option linter.unusedSimpArgs false
set_option linter.unusedVariables false
def Out (w w' : World) (base : Nat) (v v' : Value) (r : List Int) : Prop := w'.ownsRow base 5 1 v' r.length (vB r) ∧ (v'.ownBlock = v.ownBlock ∨ ∃ b, v'.ownBlock = some b ∧ w.heap.size ≤ b)
theorem spl2 {α : Type} (cur X1 Y X2 : List α) (i m k : Nat) (h1 : cur.take i = X1) (hi : X1.length = i) (hm : Y.length = m) (hk : X2.length = k) (hc : i + m + k ≤ cur.length) : (Go.splice (Go.splice cur i Y) (i + m) X2).take (i + m + k) = X1 ++ Y ++ X2 := by
 unfold Go.splice; rw [h1]; have e1 : (X1 ++ (Y ++ cur.drop (i + Y.length))).take (i + m) = X1 ++ Y := by
  rw [← List.append_assoc, List.take_append_of_le_length (by rw [List.length_append]; omega), List.take_of_length_le (by rw [List.length_append]; omega)]
 rw [e1, ← List.append_assoc, List.take_append_of_le_length (by simp only [List.length_append]; omega), List.take_of_length_le (by simp only [List.length_append]; omega)]
theorem spl3 {α : Type} (cur X1 Y X2 : List α) (i m k : Nat) (h1 : cur.take i = X1) (hi : X1.length = i) (hm : Y.length = m) (hk : X2.length = k) (hc : i + m + k ≤ cur.length) : (Go.splice (Go.splice cur (i + m) X2) i Y).take (i + m + k) = X1 ++ Y ++ X2 := by
 unfold Go.splice; have e1 : (cur.take (i + m) ++ (X2 ++ cur.drop (i + m + X2.length))).take i = X1 := by
  rw [List.take_append_of_le_length (by rw [List.length_take]; omega), List.take_take, Nat.min_eq_left (by omega), h1]
 have e2 : (cur.take (i + m) ++ (X2 ++ cur.drop (i + m + X2.length))).drop (i + Y.length) = X2 ++ cur.drop (i + m + X2.length) := by
  rw [hm, List.drop_append_of_le_length (by rw [List.length_take]; omega)]; have : (cur.take (i + m)).drop (i + m) = [] := by apply List.drop_eq_nil_of_le; rw [List.length_take]; omega
  rw [this]; rfl
 rw [e1, e2, ← List.append_assoc, ← List.append_assoc, List.take_append_of_le_length (by simp only [List.length_append]; omega), List.take_of_length_le (by simp only [List.length_append]; omega)]
theorem gb_drew {w0 w : World} {r : Option Nat} (h : w0.grownBy w r) : w0.grownBy w.drew r := ⟨h.os, h.tape, h.output, h.size, h.block⟩
theorem wrapN (n : Nat) (h : n ≤ 1000000) : IntKind.i64.wrap (n : Int) = n := by rw [IntKind.wrap_i64]; omega
theorem vB_drop (bs : List Int) (i : Nat) : vB (bs.drop i) = (vB bs).drop i := by simp [vB, List.map_drop]
theorem vB_take (bs : List Int) (i : Nat) : vB (bs.take i) = (vB bs).take i := by simp [vB, List.map_take]
theorem slL0 (w : World) (g n vc l : Nat) (hl : l ≤ n) (hc : l < vc) : (Instr.slice 28 (.slice (some ⟨g, 0, none⟩) n vc) (some (.int .i64 l)) none none).run Tryz.prog w = .ok (.slice (some ⟨g, l, none⟩) (n - l) (vc - l)) w := by
 rw [slL2 w g 0 n vc l l rfl hl, if_neg (by omega), Nat.zero_add]
set_option maxRecDepth 100000 in
set_option maxHeartbeats 8000000 in
theorem insert_any {w : World} {base base2 : Nat} (v hv : Value) (bs hs : List Int) (i : Nat) (hi : i ≤ bs.length) (hown : w.ownsRow base 5 1 v bs.length (vB bs)) (hh : w.ownsRow base2 5 1 hv hs.length (vB hs)) (hne : ∀ b, hv.ownBlock = some b → v.ownBlock ≠ some b) (h1 : 1 ≤ hs.length) (h9 : hs.length ≤ 9) (hl : bs.length ≤ 70000) (hbase : base ≤ w.heap.size) :
 Calls Tryz.prog 106 #[v, .int .i64 i, hv] w fun e w' => ∃ v', e = .returned v' ∧ Out w w' base v v' (bs.take i ++ hs ++ bs.drop i) ∧ w.grownBy w' v.ownBlock := by
 obtain ⟨a, cap, rfl, q1, q2, q3, q4⟩ := row_cap hown; obtain ⟨ah, ch, rfl, r1, r2, r3, r4⟩ := row_cap hh; obtain ⟨gh, rfl⟩ : ∃ gh, ah = some ⟨gh, 0, none⟩ := by
  cases ah with
  | none => have := r3 rfl; omega
  | some ad => obtain ⟨g, hg⟩ := r4 ad rfl; exact ⟨g, by rw [hg]⟩
 obtain ⟨n, hn⟩ : ∃ n, n = bs.length := ⟨_, rfl⟩
 obtain ⟨m, hm⟩ : ∃ m, m = hs.length := ⟨_, rfl⟩
 have HH : Hid (w.ownsRow base2 5 1 (.slice (some ⟨gh, 0, none⟩) hs.length ch) hs.length (vB hs)) := hh; have HO : Hid (w.ownsRow base 5 1 (.slice a bs.length cap) bs.length (vB bs)) := hown; have hm0 : ((m : Int) == 0) = false := by simp; omega
 clear hh hown; by_cases hin : i = bs.length
 · have hsl : ∀ w : World, ∃ u, (Instr.slice 28 (.slice a n cap) (some (.int .i64 i)) none none).run Tryz.prog w = .ok u w := fun w => by
    cases a with
    | none =>
      have h0 := q3 rfl; obtain ⟨rfl, rfl⟩ : i = 0 ∧ n = 0 := by omega
      subst h0; exact ⟨.slice none 0 0, by kernel_rfl⟩
    | some ad =>
      obtain ⟨g, rfl⟩ := q4 ad rfl; exact ⟨_, slL2 w g 0 n cap i i rfl (by omega)⟩
   have hin' : ((i : Int) == (n : Int)) = true := by simp; omega
   have HI : Hid (i = bs.length ∧ n = bs.length ∧ m = hs.length) := ⟨hin, hn, hm⟩
   rw [← hn, ← hm]; obtain ⟨u, hsl⟩ : ∃ u, (Instr.slice 28 (.slice a n cap) (some (.int .i64 i)) none none).run Tryz.prog w = .ok u w := hsl w; clear hin hn hm; go_enter Tryz.func106, Tryz.ntmps106; go_wp2_with (first
    | (at_builtin
       refine wpList_append_b rfl _ _ rfl base (.slice a n cap) (.slice (some ⟨gh, 0, none⟩) m ch) bs hs rfl (by have := HO.out; rw [← HI.out.2.1] at this ⊢; exact this) rfl (by have := BytesV.of_own HH.out; rw [← HI.out.2.2] at this; exact this) (by omega) hbase ?_; intro v' w2 ho hg ha; have H2 : Hid (w2.ownsRow base 5 1 v' (bs ++ hs).length (vB (bs ++ hs)) ∧ w.grownBy w2 (Value.slice a n cap).ownBlock ∧ (v'.ownBlock = (Value.slice a n cap).ownBlock ∨ v'.ownBlock = some w.heap.size)) := ⟨ho, hg, ha⟩
       clear ho hg ha))
   go_ret; refine ⟨v', rfl, ⟨?_, ?_⟩, H2.out.2.1⟩
   · rw [HI.out.1, List.take_length, List.drop_length, List.append_nil]
     exact H2.out.1
   · rcases H2.out.2.2 with h | h
     · exact Or.inl h
     · exact Or.inr ⟨_, h, Nat.le_refl _⟩
 · have hilt : i < n := by omega
   obtain ⟨g, rfl⟩ : ∃ g, a = some ⟨g, 0, none⟩ := by
    cases a with
    | none => have := q3 rfl; omega
    | some ad => obtain ⟨g, hg⟩ := q4 ad rfl; exact ⟨g, by rw [hg]⟩
   have hgne : gh ≠ g := fun e => hne gh rfl (by rw [e]; rfl)
   obtain ⟨cur, hcur, hcl, hct⟩ : ∃ cur : List Value, w.heap[g]? = some (.cells cur.toArray 5 (0, 0)) ∧ cur.length = cap ∧ cur.take n = vB bs := by
    rcases HO.out.2 with ⟨e, _⟩ | ⟨g', cap', c, e, _, hg, _, _, hs', ht⟩
    · cases e
    · cases e
      exact ⟨c.toList, hg, by rw [Array.length_toList, hs', Nat.mul_one], by rw [hn]; rw [Nat.mul_one] at ht; exact ht⟩
   obtain ⟨curh, hcurh⟩ : ∃ c : Array Value, w.heap[gh]? = some (.cells c 5 (0, 0)) := by
    rcases HH.out.2 with ⟨e, _⟩ | ⟨g', cap', c, e, _, hg, _⟩
    · cases e
    · cases e; exact ⟨c, hg⟩
   have hbg : base ≤ g := (HO.out.lt g rfl).1; have hX1 : cur.take i = vB (bs.take i) := by rw [vB_take, ← hct, List.take_take, Nat.min_eq_left (by omega)]
   have hcells : ∀ j u, (vB bs)[j]? = some u → w.cell? ⟨g, j, none⟩ = some u := fun j u hu => by
    have := HO.out.cells (g := g) rfl j u hu; rw [Addr.add_lit, Nat.zero_add] at this; exact this
   have hcellh : ∀ j u, (vB hs)[j]? = some u → w.cell? ((⟨gh, 0, none⟩ : Addr).add j) = some u := HH.out.cells (g := gh) rfl; have hl1 : (vB (bs.take i)).length = i := by rw [vB_length, List.length_take]; omega
   have hl2 : (vB (bs.drop i)).length = n - i := by rw [vB_length, List.length_drop]; omega
   have hl3 : (vB hs).length = m := by rw [vB_length]; omega
   have hin' : ((i : Int) == (n : Int)) = false := by simp; omega
   have hsl := fun w' => slL0 w' g n cap i (by omega) (by omega)
   have hfin : ∀ (w' : World) (b c : Nat) (cc : List Value), base ≤ b → w'.heap[b]? = some (.cells cc.toArray 5 (0, 0)) → n + m ≤ c → c ≤ maxLen → cc.length = c → cc.take (i + m + (n - i)) = vB (bs.take i) ++ vB hs ++ vB (bs.drop i) → w'.ownsRow base 5 1 (.slice (some ⟨b, 0, none⟩) (n + m) c) (bs.take i ++ hs ++ bs.drop i).length (vB (bs.take i ++ hs ++ bs.drop i)) := fun w' b c cc hb hc h1 h2 h3 h4 => by
    have hlen : (bs.take i ++ hs ++ bs.drop i).length = n + m := by simp only [List.length_append, List.length_take, List.length_drop]; omega
    refine ⟨by rw [vB_length, Nat.mul_one], Or.inr ⟨b, c, cc.toArray, by rw [hlen], hb, hc, by rw [hlen]; exact h1, h2, by simp [h3], ?_⟩⟩; rw [hlen, Nat.mul_one, vB_append, vB_append, ← h4]; congr 1; omega
   have HF : Hid _ := hfin; have HA : Hid (n = bs.length ∧ m = hs.length ∧ cur.length = cap ∧ cur.take n = vB bs ∧ cur.take i = vB (bs.take i) ∧ w.heap[g]? = some (.cells cur.toArray 5 (0, 0)) ∧ w.heap[gh]? = some (.cells curh 5 (0, 0)) ∧ base ≤ g ∧ (∀ j u, (vB bs)[j]? = some u → w.cell? ⟨g, j, none⟩ = some u) ∧ (∀ j u, (vB hs)[j]? = some u → w.cell? ((⟨gh, 0, none⟩ : Addr).add j) = some u)) := ⟨hn, hm, hcl, hct, hX1, hcur, hcurh, hbg, hcells, hcellh⟩
   have HQ : Hid (n ≤ cap ∧ n ≤ 70000 ∧ 1 ≤ m ∧ m ≤ 9 ∧ cap ≤ maxLen) := ⟨by omega, by omega, by omega, by omega, by unfold maxLen; omega⟩
   have HL : Hid ((vB (bs.take i)).length = i ∧ (vB (bs.drop i)).length = n - i ∧ (vB hs).length = m) := ⟨hl1, hl2, hl3⟩
   rw [← hn, ← hm]; clear hfin hcells hcellh hl1 hl2 hl3 hX1 hcur hcurh hbg hcl hct hne q1 q2 q3 q4 r1 r2 r3 r4; have hgc : g < w.heap.size := heap_lt HA.out.2.2.2.2.2.1; by_cases hroom : cap < n + m
   · have hr' : (cap : Int) < (n : Int) + m := by omega
     have hslH := fun w' => slH w' g 0 n cap i i rfl (by have := HQ.out; omega) (by have := HQ.out; omega)
     obtain ⟨k, hk0⟩ : ∃ k, k = n + m - i := ⟨_, rfl⟩
     obtain ⟨N, hN0⟩ : ∃ N, N = n + m := ⟨_, rfl⟩
     obtain ⟨I, hI0⟩ : ∃ I, I = i + m := ⟨_, rfl⟩
     have hk : (n : Int) + m - i = (k : Int) := by omega
     have hII : (i : Int) + m = (I : Int) := by omega
     have hnm : i + k = N := by omega
     have HK : Hid (k = n + m - i ∧ N = n + m ∧ i < n ∧ i + k = N ∧ N - i = k ∧ I = i + m ∧ N - I = n - i ∧ cap < N) := ⟨hk0, hN0, hilt, hnm, by omega, by omega, by omega, by omega⟩
     rw [← hN0] at HF; have hb1 : n ≤ 70000 := HQ.out.2.1; have hb2 : m ≤ 9 := HQ.out.2.2.2.1; clear hn hm hin hi hl h1 h9 hk0 hN0 hI0 hnm hroom; have T1 : Hid True := trivial; go_enter Tryz.func106, Tryz.ntmps106; go_wp2_with (first
      | (have _ := T1
         at_builtin
         clear T1; refine wpList_append_zeros rfl _ _ rfl g cap i k (vB (bs.take i)) HL.out.1 rfl (fun j u hu => HA.out.2.2.2.2.2.2.2.2.1 j u (by rw [vB_take, List.getElem?_take] at hu; split at hu; exact hu; cases hu)) rfl (by have := HQ.out; have := HK.out; omega) (by have := HK.out; omega) (by have := HQ.out; have := HK.out; omega) ?_; intro cap' w2 cur2 hc1 hc2 hc3 hc4 hc5 hbw hs2; rw [HK.out.2.2.2.1] at hc1 ⊢; have H2 : Hid (N ≤ cap' ∧ cap' ≤ maxLen ∧ w2.heap[w.heap.size]? = some (.cells cur2.toArray 5 (0, 0)) ∧ cur2.length = cap' ∧ cur2.take i = vB (bs.take i) ∧ Below w.heap.size w w2 ∧ w.heap.size < w2.heap.size) := ⟨hc1, hc2, hc3, hc4, hc5, hbw, hs2⟩
         have hslB := fun w' => slL0 w' w.heap.size N cap' i (by have := HK.out; omega) (by have := HK.out; omega)
         rw [HK.out.2.2.2.2.1] at hslB; have hslC := fun w' => slL0 w' w.heap.size N cap' I (by have := HK.out; omega) (by have := HK.out; omega)
         rw [HK.out.2.2.2.2.2.2.1] at hslC; have T2 : Hid True := trivial; have H9 : Hid ((vB hs).length = Nat.min m k) := by show (vB hs).length = min m k; rw [HL.out.2.2]; have := HK.out; omega
         have H8 : Hid (∀ j u, (vB hs)[j]? = some u → w2.cell? ((⟨gh, 0, none⟩ : Addr).add j) = some u) := fun j u hu => (H2.out.2.2.2.2.2.1.cell (cell_lt (HA.out.2.2.2.2.2.2.2.2.2 j u hu))).trans (HA.out.2.2.2.2.2.2.2.2.2 j u hu)
         have H7 : Hid (i + (vB hs).length ≤ cur2.length) := by show _ ≤ _; rw [HL.out.2.2, H2.out.2.2.2.1]; have := H2.out.1; have := HK.out; omega
         clear hc1 hc2 hc3 hc4 hc5 hbw hs2)
      | (have _ := T2
         refine wpList_copy_o rfl _ _ rfl (some ⟨w.heap.size, i, none⟩) (some ⟨gh, 0, none⟩) k (cap' - i) m ch rfl rfl w.heap.size i cur2 H2.out.2.2.1 (vB hs) H9.out (fun _ => ⟨rfl, _, rfl, H8.out⟩) H7.out (vB_one hs) ?_; intro w3 hg3 hb3; clear T2; have H3 : Hid (w3.heap[w.heap.size]? = some (.cells (Go.splice cur2 i (vB hs)).toArray 5 (0, 0)) ∧ w.grownBy w3 (some g) ∧ w.heap.size < w3.heap.size ∧ Below w.heap.size w w3) := ⟨hg3.out, gb_comp (gb_of_below H2.out.2.2.2.2.2.1 _) hb3 (Or.inr ⟨_, rfl, Nat.le_refl _⟩), by have := hb3.size; have := H2.out.2.2.2.2.2.2; omega, H2.out.2.2.2.2.2.1.grown hb3 (by have := H2.out.2.2.2.2.2.2; omega) (fun j hj => by injection hj with hj; omega)⟩
         clear hg3 hb3))
     have h6 : (vB (bs.drop i)).length = Nat.min (n - i) (n - i) := by show _ = min _ _; rw [HL.out.2.1, Nat.min_self]
     have h5 : ∀ j u, (vB (bs.drop i))[j]? = some u → w3.drew.cell? ((⟨g, i, none⟩ : Addr).add j) = some u := fun j u hu => by
      rw [vB_drop, List.getElem?_drop] at hu; rw [Addr.add_lit]; have h1 := HA.out.2.2.2.2.2.2.2.2.1 (i + j) u hu; exact (H3.out.2.2.2.cell (cell_lt h1)).trans h1
     have h4 : I + (vB (bs.drop i)).length ≤ (Go.splice cur2 i (vB hs)).length := by
      rw [length_splice _ _ _ H7.out, HL.out.2.1, H2.out.2.2.2.1]; have := H2.out.1; have := HK.out; omega
     have hwI : IntKind.i64.wrap (I : Int) = I := wrapN I (by have := HK.out; omega); have hS0 : g < w3.drew.heap.size := by have := H3.out.2.2.1; show g < w3.heap.size; omega
     have H3d : Hid (w3.drew.heap[w.heap.size]? = some (.cells (Go.splice cur2 i (vB hs)).toArray 5 (0, 0))) := H3.out.1; have H6 : Hid ((vB (bs.drop i)).length = Nat.min (n - i) (n - i)) := h6; have H5 : Hid (∀ j u, (vB (bs.drop i))[j]? = some u → w3.drew.cell? ((⟨g, i, none⟩ : Addr).add j) = some u) := h5; have H4 : Hid (I + (vB (bs.drop i)).length ≤ (Go.splice cur2 i (vB hs)).length) := h4; generalize hsc : Go.splice cur2 i (vB hs) = sc at H3d H4; have HSC : Hid (Go.splice cur2 i (vB hs) = sc) := hsc; clear hsc; clear h6 h5 h4; simp only [sm]; go_region_held3 (fun w' => g < w'.heap.size) (first | assumption | exact hS0) (first | (refine step_copy_o rfl (.tmp 50) (.tmp 53) rfl (some ⟨w.heap.size, I, none⟩) (some ⟨g, i, none⟩) (n - i) (cap' - I) (n - i) (cap - i) rfl rfl w.heap.size I sc H3d.out (vB (bs.drop i)) H6.out (fun _ => ⟨rfl, _, rfl, H5.out⟩) H4.out (vB_one _) ?_; intro w4 hg4 hb4; have hS2 : g < w4.heap.size := Nat.lt_of_lt_of_le hS0 hb4.size)); have H8' : Hid (w4.heap[w.heap.size]? = some (.cells (Go.splice sc I (vB (bs.drop i))).toArray 5 (0, 0)) ∧ w.grownBy w4 (some g)) := ⟨hg4.out, gb_comp (gb_drew H3.out.2.1) hb4 (Or.inr ⟨_, rfl, Nat.le_refl _⟩)⟩
     clear hg4 hb4; go_wp2; go_ret; refine ⟨_, rfl, ⟨HF.out w4 w.heap.size cap' _ hbase H8'.out.1 H2.out.1 H2.out.2.1 ?_ ?_, Or.inr ⟨_, rfl, Nat.le_refl _⟩⟩, H8'.out.2⟩
     · rw [length_splice _ _ _ H4.out, ← HSC.out, length_splice _ _ _ H7.out, H2.out.2.2.2.1]
     · have := spl2 cur2 (vB (bs.take i)) (vB hs) (vB (bs.drop i)) i m (n - i) H2.out.2.2.2.2.1 HL.out.1 HL.out.2.2 HL.out.2.1 (by rw [H2.out.2.2.2.1]; have := H2.out.1; have := HK.out; omega)
       rw [← HK.out.2.2.2.2.2.1] at this ⊢; rw [← HSC.out]; exact this
   · have hr' : ¬ (cap : Int) < (n : Int) + m := by omega
     obtain ⟨N, hN0⟩ : ∃ N, N = n + m := ⟨_, rfl⟩
     obtain ⟨I, hI0⟩ : ∃ I, I = i + m := ⟨_, rfl⟩
     have hslH := fun w' => slH w' g 0 n cap N N rfl (by omega) (by have := HQ.out; omega)
     have hNN : (n : Int) + m = (N : Int) := by omega
     have hII : (i : Int) + m = (I : Int) := by omega
     have hslI := fun w' => slL0 w' g N cap I (by omega) (by omega)
     have hslJ := fun w' => slL0 w' g N cap i (by omega) (by omega)
     have HK : Hid (N = n + m ∧ i < n ∧ I = i + m ∧ N - I = n - i ∧ N ≤ cap ∧ N - i = n - i + m) := ⟨hN0, hilt, by omega, by omega, by omega, by omega⟩
     rw [HK.out.2.2.2.1] at hslI; have hov := fun (o l' c' : Nat) => over_no (l := m) (c := ch) (o := o) (l' := l') (c' := c') hgne HA.out.2.2.2.2.2.2.1 HA.out.2.2.2.2.2.1
     have hb1 : n ≤ 70000 := HQ.out.2.1; have hb2 : m ≤ 9 := HQ.out.2.2.2.1; have hwI : IntKind.i64.wrap (I : Int) = I := wrapN I (by omega); have hrn : ¬ (cap : Int) < (N : Int) := by omega
     rw [← hN0] at HF; clear hn hm hin hi hl h1 h9 hN0 hI0 hroom; go_enter Tryz.func106, Tryz.ntmps106; go_wp2_with fail; have H6 : Hid ((vB (bs.drop i)).length = Nat.min (N - i) (n - i)) := by show _ = min _ _; rw [HL.out.2.1]; have := HK.out; omega
     have H5 : Hid (∀ j u, (vB (bs.drop i))[j]? = some u → w.drew.cell? ((⟨g, i, none⟩ : Addr).add j) = some u) := fun j u hu => by
      rw [vB_drop, List.getElem?_drop] at hu; rw [Addr.add_lit]; exact HA.out.2.2.2.2.2.2.2.2.1 (i + j) u hu
     have H4 : Hid (I + (vB (bs.drop i)).length ≤ cur.length) := by
      show _ ≤ _; rw [HL.out.2.1, HA.out.2.2.1]; have := HK.out; omega
     have hS0 : g < w.drew.heap.size := hgc; have H3d : Hid (w.drew.heap[g]? = some (.cells cur.toArray 5 (0, 0))) := HA.out.2.2.2.2.2.1; go_region_held3 (fun w' => g < w'.heap.size) (first | assumption | exact hS0) (first | (refine step_copy_o rfl (.tmp 73) (.tmp 76) rfl (some ⟨g, I, none⟩) (some ⟨g, i, none⟩) (n - i) (cap - I) (N - i) (cap - i) rfl rfl g I cur H3d.out (vB (bs.drop i)) H6.out (fun _ => ⟨rfl, _, rfl, H5.out⟩) H4.out (vB_one _) ?_; intro w4 hg4 hb4; have hS2 : g < w4.heap.size := Nat.lt_of_lt_of_le hS0 hb4.size)); have H8 : Hid (w4.heap[g]? = some (.cells (Go.splice cur I (vB (bs.drop i))).toArray 5 (0, 0)) ∧ w.grownBy w4 (some g)) := ⟨hg4.out, gb_comp (gb_drew (World.grownBy.refl _ (some g))) hb4 (Or.inl rfl)⟩
     clear hg4 hb4 H3d H5 H6; generalize hsc : Go.splice cur I (vB (bs.drop i)) = sc at H8; have HSC : Hid (Go.splice cur I (vB (bs.drop i)) = sc ∧ sc.length = cap) := ⟨hsc, by rw [← hsc, length_splice _ _ _ H4.out]; exact HA.out.2.2.1⟩
     have H9 : Hid ((vB hs).length = Nat.min m (N - i)) := by show (vB hs).length = min m _; rw [HL.out.2.2]; have := HK.out; omega
     have H7 : Hid (∀ j u, (vB hs)[j]? = some u → w4.cell? ((⟨gh, 0, none⟩ : Addr).add j) = some u) := fun j u hu => by
      have h1 := HA.out.2.2.2.2.2.2.2.2.2 j u hu; rw [Addr.add_lit] at h1 ⊢; exact (World.cell?_of_block (H8.out.2.block gh (cell_lt h1) (fun e => hgne (by injection e)))).trans h1
     have H3 : Hid (i + (vB hs).length ≤ sc.length) := by show _ ≤ _; rw [HL.out.2.2, HSC.out.2]; have := HK.out; omega
     clear hsc; have T2 : Hid True := trivial; go_wp2_with (first
      | (have _ := T2
         refine wpList_copy_o rfl _ _ rfl (some ⟨g, i, none⟩) (some ⟨gh, 0, none⟩) (N - i) (cap - i) m ch rfl rfl g i sc H8.out.1 (vB hs) H9.out (fun _ => ⟨rfl, _, rfl, H7.out⟩) H3.out (vB_one hs) ?_; intro w5 hg5 hb5; clear T2; have H5 : Hid (w5.heap[g]? = some (.cells (Go.splice sc i (vB hs)).toArray 5 (0, 0)) ∧ w.grownBy w5 (some g)) := ⟨hg5.out, gb_comp H8.out.2 hb5 (Or.inl rfl)⟩
         clear hg5 hb5))
     go_ret; refine ⟨_, rfl, ⟨HF.out w5 g cap _ HA.out.2.2.2.2.2.2.2.1 H5.out.1 (by have := HK.out; omega) HQ.out.2.2.2.2 ?_ ?_, Or.inl rfl⟩, H5.out.2⟩
     · rw [length_splice _ _ _ H3.out, HSC.out.2]
     · have := spl3 cur (vB (bs.take i)) (vB hs) (vB (bs.drop i)) i m (n - i) HA.out.2.2.2.2.1 HL.out.1 HL.out.2.2 HL.out.2.1 (by rw [HA.out.2.2.1]; have := HK.out; omega)
       rw [← HK.out.2.2.1] at this ⊢; rw [← HSC.out.1]; exact this
end Go.Proofs.YtojfcdjgcgnajaaGreat.Rl
