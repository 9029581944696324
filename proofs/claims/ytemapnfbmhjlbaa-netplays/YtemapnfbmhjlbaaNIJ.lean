/- NI, NJ, laid into one text. -/
import Derived.Test.YtemapnfbmhjlbaaNC2
import Derived.Deep.RegionHeld3
/- net: slices.Insert of a timer. -/
namespace Go.Proofs.Ytemapnfbmhjlbaa
open Go.RowKit Go.Maps Go.Joins
set_option linter.unusedSimpArgs false
set_option linter.unusedVariables false
theorem ov2 (a b : Option Addr) (la ca lb cb : Nat) (F : Option Addr → Nat → Nat → Option Addr → Nat → Nat → Sem Value) (G : Array Value → Sem Value) :
    Extern.SlicesOverlaps.overlaps.match_4 (fun _ => Sem Value) #[.slice a la ca, .slice b lb cb] F G = F a la ca b lb cb := rfl
theorem over_no {w : World} {g g' o l l' c c' : Nat} {cs cs' : Array Value} (hne : g ≠ g') (h : w.heap[g]? = some (.cells cs 63 (0, 0))) (h' : w.heap[g']? = some (.cells cs' 63 (0, 0))) :
    (callFunc 54 #[.slice (some ⟨g, 0, none⟩) l c, .slice (some ⟨g', o, none⟩) l' c']).run Try.prog w = .ok (.value (.bool false)) w := by
  rw [run_callFunc_extern Try.func54 (by kernel_rfl) (by kernel_rfl) (by kernel_rfl) (e := Extern.SlicesOverlaps.overlaps #[46, 46] #[4]) (by kernel_rfl)]
  have hf : ∀ k, w.frozen? ⟨g, k, none⟩ = false := fun k => unfrozen_of_block h k
  have hf' : ∀ k, w.frozen? ⟨g', k, none⟩ = false := fun k => unfrozen_of_block h' k
  have hs : w.shape? g = some (63, cs.size) := by simp [World.shape?, h]
  have hs' : w.shape? g' = some (63, cs'.size) := by simp [World.shape?, h']
  have hu : (underlying 46).run Try.prog w = .ok (.slice 63) w := by kernel_rfl
  have hz : (sizeOf 63).run Try.prog w = .ok 3 w := by kernel_rfl
  delta Extern.SlicesOverlaps.overlaps
  dsimp only
  rw [ov2]
  by_cases h0 : l = 0 ∨ l' = 0
  · rcases h0 with h0 | h0 <;> simp [Sem.run_bind, hu, hz, Result.andThen, h0]
  · simp [Sem.run_bind, hu, hz, Result.andThen, h0, hf, hf', hne, noView, viewAt, hs, hs', mayBeOne, stringish]
end Go.Proofs.Ytemapnfbmhjlbaa
/- net: slices.Insert of a timer: the walk. -/
namespace Go.Proofs.Ytemapnfbmhjlbaa
open Go.RowKit Go.Maps Go.Joins
set_option linter.unusedSimpArgs false
set_option linter.unusedVariables false
theorem wrapN (n : Nat) (h : n ≤ 2000000) : IntKind.i64.wrap (n : Int) = n := by rw [IntKind.wrap_i64]; omega
set_option maxRecDepth 100000 in
set_option maxHeartbeats 8000000 in
theorem insert_any {w : World} {base base2 : Nat} (v hv : Value) (X H : List Value) (n m i : Nat) (hi : i ≤ n) (hown : w.ownsRow base 63 3 v n X) (hh : w.ownsRow base2 63 3 hv m H) (hne : ∀ b, hv.ownBlock = some b → v.ownBlock ≠ some b) (h1 : 1 ≤ m) (h9 : m ≤ 9) (hl : n ≤ 70000) (hx1 : ∀ u ∈ X, u.oneCell' = true) (hh1 : ∀ u ∈ H, u.oneCell' = true) (hbase : base ≤ w.heap.size) :
    Calls Try.prog 40 #[v, .int .i64 i, hv] w fun ex w' => ∃ v', ex = .returned v' ∧ w'.ownsRow base 63 3 v' (n + m) (X.take (i * 3) ++ H ++ X.drop (i * 3)) ∧ (v'.ownBlock = v.ownBlock ∨ ∃ b, v'.ownBlock = some b ∧ w.heap.size ≤ b) ∧ w.grownBy w' v.ownBlock := by
  obtain ⟨a, cap, rfl, q1, q2, q3, q4⟩ := row_cap hown
  obtain ⟨ah, ch, rfl, r1, r2, r3, r4⟩ := row_cap hh
  obtain ⟨gh, rfl⟩ : ∃ gh, ah = some ⟨gh, 0, none⟩ := by
    cases ah with
    | none => have := r3 rfl; omega
    | some ad => obtain ⟨g, hg⟩ := r4 ad rfl; exact ⟨g, by rw [hg]⟩
  have HH : Hid (w.ownsRow base2 63 3 (.slice (some ⟨gh, 0, none⟩) m ch) m H) := hh
  have HO : Hid (w.ownsRow base 63 3 (.slice a n cap) n X) := hown
  have H1 : Hid ((∀ u ∈ X, u.oneCell' = true) ∧ ∀ u ∈ H, u.oneCell' = true) := ⟨hx1, hh1⟩
  have hm0 : ((m : Int) == 0) = false := by simp; omega
  have hcellh : ∀ j u, H[j]? = some u → w.cell? ((⟨gh, 0, none⟩ : Addr).add j) = some u := HH.out.cells (g := gh) rfl
  clear hh hown hx1 hh1
  by_cases hin : i = n
  · have hsl : ∀ w : World, ∃ u, (Instr.slice 46 (.slice a n cap) (some (.int .i64 i)) none none).run Try.prog w = .ok u w := fun w => by
      cases a with
      | none =>
        have h0 := q3 rfl
        obtain ⟨rfl, rfl⟩ : i = 0 ∧ n = 0 := by omega
        subst h0
        exact ⟨.slice none 0 0, by kernel_rfl⟩
      | some ad =>
        obtain ⟨g, rfl⟩ := q4 ad rfl
        exact ⟨_, elT.l w g 0 n cap i i rfl (by omega)⟩
    have hin' : ((i : Int) == (n : Int)) = true := by simp; omega
    have HI : Hid (i = n) := hin
    have HC : Hid (∀ j u, H[j]? = some u → w.cell? ((⟨gh, 0, none⟩ : Addr).add j) = some u) := hcellh
    obtain ⟨u, hsl⟩ : ∃ u, (Instr.slice 46 (.slice a n cap) (some (.int .i64 i)) none none).run Try.prog w = .ok u w := hsl w
    clear hin hcellh
    go_enter Try.func40, Try.ntmps40
    go_wp2_with (first
      | (at_builtin
         refine elT.wpList_append rfl _ _ rfl base (.slice a n cap) n X rfl HO.out (some ⟨gh, 0, none⟩) m ch rfl H HH.out.1 (fun _ => ⟨_, rfl, HC.out⟩) (fun h => by cases h) H1.out.2 (by omega) hbase ?_
         intro v' w2 ho hg ha
         have H2 : Hid (w2.ownsRow base 63 3 v' (n + m) (X ++ H) ∧ w.grownBy w2 (Value.slice a n cap).ownBlock ∧ (v'.ownBlock = (Value.slice a n cap).ownBlock ∨ v'.ownBlock = some w.heap.size)) := ⟨ho, hg, ha⟩
         clear ho hg ha))
    go_ret
    refine ⟨v', rfl, ?_, ?_, H2.out.2.1⟩
    · rw [HI.out, List.take_of_length_le (by rw [HO.out.1]; omega), List.drop_eq_nil_of_le (by rw [HO.out.1]; omega), List.append_nil]
      exact H2.out.1
    · rcases H2.out.2.2 with h | h
      · exact Or.inl h
      · exact Or.inr ⟨_, h, Nat.le_refl _⟩
  · have hilt : i < n := by omega
    obtain ⟨g, rfl⟩ : ∃ g, a = some ⟨g, 0, none⟩ := by
      cases a with
      | none => have := q3 rfl; omega
      | some ad => obtain ⟨g, hg⟩ := q4 ad rfl; exact ⟨g, by rw [hg]⟩
    have hgne : gh ≠ g := fun e => hne gh rfl (by rw [e]; rfl)
    obtain ⟨cur, hcur, hcl, hct⟩ : ∃ cur : List Value, w.heap[g]? = some (.cells cur.toArray 63 (0, 0)) ∧ cur.length = cap * 3 ∧ cur.take (n * 3) = X := by
      rcases HO.out.2 with ⟨e, _⟩ | ⟨g', cap', c, e, _, hg, _, _, hs', ht⟩
      · cases e
      · cases e
        exact ⟨c.toList, hg, by rw [Array.length_toList, hs'], ht⟩
    obtain ⟨curh, hcurh⟩ : ∃ c : Array Value, w.heap[gh]? = some (.cells c 63 (0, 0)) := by
      rcases HH.out.2 with ⟨e, _⟩ | ⟨g', cap', c, e, _, hg, _⟩
      · cases e
      · cases e; exact ⟨c, hg⟩
    have hbg : base ≤ g := (HO.out.lt g rfl).1
    have hXl : X.length = n * 3 := HO.out.1
    have hX1 : cur.take (i * 3) = X.take (i * 3) := by rw [← hct, List.take_take, Nat.min_eq_left (by omega)]
    have hcells : ∀ j u, X[j]? = some u → w.cell? ⟨g, j, none⟩ = some u := fun j u hu => by
      have := HO.out.cells (g := g) rfl j u hu
      rw [Addr.add_lit, Nat.zero_add] at this
      exact this
    have hl1 : (X.take (i * 3)).length = i * 3 := by rw [List.length_take]; omega
    have hl2 : (X.drop (i * 3)).length = (n - i) * 3 := by rw [List.length_drop]; omega
    have hl3 : H.length = m * 3 := HH.out.1
    have hin' : ((i : Int) == (n : Int)) = false := by simp; omega
    have hsl := fun w' => elT.l0 w' g n cap i (by omega) (by omega)
    have hfin : ∀ (w' : World) (b c : Nat) (cc : List Value), base ≤ b → w'.heap[b]? = some (.cells cc.toArray 63 (0, 0)) → n + m ≤ c → c ≤ maxLen → cc.length = c * 3 → cc.take (i * 3 + m * 3 + (n - i) * 3) = X.take (i * 3) ++ H ++ X.drop (i * 3) → w'.ownsRow base 63 3 (.slice (some ⟨b, 0, none⟩) (n + m) c) (n + m) (X.take (i * 3) ++ H ++ X.drop (i * 3)) := fun w' b c cc hb hc h1 h2 h3 h4 => by
      refine ⟨by simp only [List.length_append, hl1, hl2, hl3]; omega, Or.inr ⟨b, c, cc.toArray, rfl, hb, hc, h1, h2, by simp [h3], ?_⟩⟩
      rw [← h4]
      congr 1
      omega
    have HF : Hid _ := hfin
    have HA : Hid (cur.length = cap * 3 ∧ cur.take (n * 3) = X ∧ cur.take (i * 3) = X.take (i * 3) ∧ w.heap[g]? = some (.cells cur.toArray 63 (0, 0)) ∧ w.heap[gh]? = some (.cells curh 63 (0, 0)) ∧ base ≤ g ∧ (∀ j u, X[j]? = some u → w.cell? ⟨g, j, none⟩ = some u) ∧ (∀ j u, H[j]? = some u → w.cell? ((⟨gh, 0, none⟩ : Addr).add j) = some u)) := ⟨hcl, hct, hX1, hcur, hcurh, hbg, hcells, hcellh⟩
    have HQ : Hid (n ≤ cap ∧ n ≤ 70000 ∧ 1 ≤ m ∧ m ≤ 9 ∧ cap ≤ maxLen) := ⟨by omega, by omega, by omega, by omega, by unfold maxLen; omega⟩
    have HL : Hid ((X.take (i * 3)).length = i * 3 ∧ (X.drop (i * 3)).length = (n - i) * 3 ∧ H.length = m * 3) := ⟨hl1, hl2, hl3⟩
    have HT : Hid ((∀ u ∈ X.take (i * 3), u.oneCell' = true) ∧ ∀ u ∈ X.drop (i * 3), u.oneCell' = true) := ⟨fun u hu => H1.out.1 u (List.mem_of_mem_take hu), fun u hu => H1.out.1 u (List.mem_of_mem_drop hu)⟩
    clear hfin hcells hcellh hl1 hl2 hl3 hX1 hXl hcurh hbg hcl hct hne q1 q2 q3 q4 r1 r2 r3 r4
    have hgc : g < w.heap.size := heap_lt hcur
    clear hcur
    by_cases hroom : cap < n + m
    · have hr' : (cap : Int) < (n : Int) + m := by omega
      have hslH := fun w' => elT.h w' g 0 n cap i i rfl (by have := HQ.out; omega) (by have := HQ.out; omega)
      obtain ⟨k, hk0⟩ : ∃ k, k = n + m - i := ⟨_, rfl⟩
      obtain ⟨N, hN0⟩ : ∃ N, N = n + m := ⟨_, rfl⟩
      obtain ⟨I, hI0⟩ : ∃ I, I = i + m := ⟨_, rfl⟩
      have hk : (n : Int) + m - i = (k : Int) := by omega
      have hII : (i : Int) + m = (I : Int) := by omega
      have hnm : i + k = N := by omega
      have HK : Hid (k = n + m - i ∧ N = n + m ∧ i < n ∧ i + k = N ∧ N - i = k ∧ I = i + m ∧ N - I = n - i ∧ cap < N) := ⟨hk0, hN0, hilt, hnm, by omega, by omega, by omega, by omega⟩
      rw [← hN0] at HF
      have hb1 : n ≤ 70000 := HQ.out.2.1
      have hb2 : m ≤ 9 := HQ.out.2.2.2.1
      clear hin hi hl h1 h9 hk0 hI0 hnm hroom
      rw [← hN0]
      clear hN0
      have T1 : Hid True := trivial
      go_enter Try.func40, Try.ntmps40
      go_wp2_with (first
        | (have _ := T1
           at_builtin
           clear T1
           refine elT.wpList_zeros rfl _ _ rfl g cap i k (X.take (i * 3)) HL.out.1 rfl (fun j u hu => HA.out.2.2.2.2.2.2.1 j u (by rw [List.getElem?_take] at hu; split at hu; exact hu; cases hu)) rfl (by have := HQ.out; have := HK.out; omega) (by have := HK.out; omega) (by have := HQ.out; have := HK.out; omega) ?_
           intro cap' w2 cur2 hc1 hc2 hc3 hc4 hc5 hbw hs2
           rw [HK.out.2.2.2.1] at hc1 ⊢
           have H2 : Hid (N ≤ cap' ∧ cap' ≤ maxLen ∧ w2.heap[w.heap.size]? = some (.cells cur2.toArray 63 (0, 0)) ∧ cur2.length = cap' * 3 ∧ cur2.take (i * 3) = X.take (i * 3) ∧ Below w.heap.size w w2 ∧ w.heap.size < w2.heap.size) := ⟨hc1, hc2, hc3, hc4, hc5, hbw, hs2⟩
           have hslB := fun w' => elT.l0 w' w.heap.size N cap' i (by have := HK.out; omega) (by have := HK.out; omega)
           rw [HK.out.2.2.2.2.1] at hslB
           have hslC := fun w' => elT.l0 w' w.heap.size N cap' I (by have := HK.out; omega) (by have := HK.out; omega)
           rw [HK.out.2.2.2.2.2.2.1] at hslC
           have T2 : Hid True := trivial
           have H9 : Hid (H.length = Nat.min m k * 3) := by show H.length = min m k * 3; rw [HL.out.2.2, Nat.min_eq_left (by have := HK.out; omega)]
           have H8 : Hid (∀ j u, H[j]? = some u → w2.cell? ((⟨gh, 0, none⟩ : Addr).add j) = some u) := fun j u hu => (H2.out.2.2.2.2.2.1.cell (cell_lt (HA.out.2.2.2.2.2.2.2 j u hu))).trans (HA.out.2.2.2.2.2.2.2 j u hu)
           have H7 : Hid (i * 3 + H.length ≤ cur2.length) := by show _ ≤ _; rw [HL.out.2.2, H2.out.2.2.2.1]; have := H2.out.1; have := HK.out; omega
           clear hc1 hc2 hc3 hc4 hc5 hbw hs2)
        | (have _ := T2
           refine elT.wpList_copy rfl _ _ rfl (some ⟨w.heap.size, i * 3, none⟩) (some ⟨gh, 0, none⟩) k (cap' - i) m ch rfl rfl w.heap.size (i * 3) cur2 H2.out.2.2.1 H H9.out (fun _ => ⟨rfl, _, rfl, H8.out⟩) H7.out H1.out.2 ?_
           intro w3 hg3 hb3
           clear T2
           have H3 : Hid (w3.heap[w.heap.size]? = some (.cells (splice cur2 (i * 3) H).toArray 63 (0, 0)) ∧ w.grownBy w3 (some g) ∧ w.heap.size < w3.heap.size ∧ Below w.heap.size w w3) := ⟨hg3.out, gb_comp (gb_of_below H2.out.2.2.2.2.2.1 _) hb3 (Or.inr ⟨_, rfl, Nat.le_refl _⟩), by have := hb3.size; have := H2.out.2.2.2.2.2.2; omega, H2.out.2.2.2.2.2.1.grown hb3 (by have := H2.out.2.2.2.2.2.2; omega) (fun j hj => by injection hj with hj; omega)⟩
           clear hg3 hb3))
      have h6 : (X.drop (i * 3)).length = Nat.min (n - i) (n - i) * 3 := by show _ = min _ _ * 3; rw [HL.out.2.1, Nat.min_self]
      have h5 : ∀ j u, (X.drop (i * 3))[j]? = some u → w3.drew.cell? ((⟨g, i * 3, none⟩ : Addr).add j) = some u := fun j u hu => by
        rw [List.getElem?_drop] at hu
        rw [Addr.add_lit]
        have h1 := HA.out.2.2.2.2.2.2.1 (i * 3 + j) u hu
        exact (H3.out.2.2.2.cell (cell_lt h1)).trans h1
      have h4 : I * 3 + (X.drop (i * 3)).length ≤ (splice cur2 (i * 3) H).length := by
        rw [length_splice _ _ _ H7.out, HL.out.2.1, H2.out.2.2.2.1]
        have := H2.out.1; have := HK.out; omega
      have hwI : IntKind.i64.wrap (I : Int) = I := wrapN I (by have := HK.out; omega)
      have hS0 : g < w3.drew.heap.size := by have := H3.out.2.2.1; show g < w3.heap.size; omega
      have H3d : Hid (w3.drew.heap[w.heap.size]? = some (.cells (splice cur2 (i * 3) H).toArray 63 (0, 0))) := H3.out.1
      have H6 : Hid ((X.drop (i * 3)).length = Nat.min (n - i) (n - i) * 3) := h6
      have H5 : Hid (∀ j u, (X.drop (i * 3))[j]? = some u → w3.drew.cell? ((⟨g, i * 3, none⟩ : Addr).add j) = some u) := h5
      have H4 : Hid (I * 3 + (X.drop (i * 3)).length ≤ (splice cur2 (i * 3) H).length) := h4
      generalize hsc : splice cur2 (i * 3) H = sc at H3d H4
      have HSC : Hid (splice cur2 (i * 3) H = sc) := hsc
      clear hsc
      clear h6 h5 h4
      simp only [Act.put, List.setIfInBounds_toArray, List.set_cons_zero, List.set_cons_succ]
      go_region_held3 (fun w' => g < w'.heap.size) (first | assumption | exact hS0) (first | (refine elT.step_copy rfl (.tmp 50) (.tmp 53) rfl (some ⟨w.heap.size, I * 3, none⟩) (some ⟨g, i * 3, none⟩) (n - i) (cap' - I) (n - i) (cap - i) rfl rfl w.heap.size (I * 3) sc H3d.out (X.drop (i * 3)) H6.out (fun _ => ⟨rfl, _, rfl, H5.out⟩) H4.out HT.out.2 ?_; intro w4 hg4 hb4; have hS2 : g < w4.heap.size := Nat.lt_of_lt_of_le hS0 hb4.size))
      have H8' : Hid (w4.heap[w.heap.size]? = some (.cells (splice sc (I * 3) (X.drop (i * 3))).toArray 63 (0, 0)) ∧ w.grownBy w4 (some g)) := ⟨hg4.out, gb_comp (gb_drew H3.out.2.1) hb4 (Or.inr ⟨_, rfl, Nat.le_refl _⟩)⟩
      clear hg4 hb4
      go_wp2
      go_ret
      refine ⟨_, rfl, HF.out w4 w.heap.size cap' _ hbase H8'.out.1 H2.out.1 H2.out.2.1 ?_ ?_, Or.inr ⟨_, rfl, Nat.le_refl _⟩, H8'.out.2⟩
      · rw [length_splice _ _ _ H4.out, ← HSC.out, length_splice _ _ _ H7.out, H2.out.2.2.2.1]
      · have := spl2 cur2 (X.take (i * 3)) H (X.drop (i * 3)) (i * 3) (m * 3) ((n - i) * 3) H2.out.2.2.2.2.1 HL.out.1 HL.out.2.2 HL.out.2.1 (by rw [H2.out.2.2.2.1]; have := H2.out.1; have := HK.out; omega)
        rw [← HSC.out]
        rw [show I * 3 = i * 3 + m * 3 from by have := HK.out; omega]
        exact this
    · have hr' : ¬ (cap : Int) < (n : Int) + m := by omega
      obtain ⟨N, hN0⟩ : ∃ N, N = n + m := ⟨_, rfl⟩
      obtain ⟨I, hI0⟩ : ∃ I, I = i + m := ⟨_, rfl⟩
      have hslH := fun w' => elT.h w' g 0 n cap N N rfl (by omega) (by have := HQ.out; omega)
      have hNN : (n : Int) + m = (N : Int) := by omega
      have hII : (i : Int) + m = (I : Int) := by omega
      have hslI := fun w' => elT.l0 w' g N cap I (by omega) (by omega)
      have hslJ := fun w' => elT.l0 w' g N cap i (by omega) (by omega)
      have HK : Hid (N = n + m ∧ i < n ∧ I = i + m ∧ N - I = n - i ∧ N ≤ cap ∧ N - i = n - i + m) := ⟨hN0, hilt, by omega, by omega, by omega, by omega⟩
      rw [HK.out.2.2.2.1] at hslI
      have hov := fun (o l' c' : Nat) => over_no (l := m) (c := ch) (o := o) (l' := l') (c' := c') hgne HA.out.2.2.2.2.1 HA.out.2.2.2.1
      have hb1 : n ≤ 70000 := HQ.out.2.1
      have hb2 : m ≤ 9 := HQ.out.2.2.2.1
      have hwI : IntKind.i64.wrap (I : Int) = I := wrapN I (by omega)
      have hrn : ¬ (cap : Int) < (N : Int) := by omega
      rw [← hN0] at HF
      rw [← hN0]
      clear hin hi hl h1 h9 hN0 hI0 hroom
      go_enter Try.func40, Try.ntmps40
      go_wp2_with fail
      have H6 : Hid ((X.drop (i * 3)).length = Nat.min (N - i) (n - i) * 3) := by show _ = min _ _ * 3; rw [HL.out.2.1, Nat.min_eq_right (by have := HK.out; omega)]
      have H5 : Hid (∀ j u, (X.drop (i * 3))[j]? = some u → w.drew.cell? ((⟨g, i * 3, none⟩ : Addr).add j) = some u) := fun j u hu => by
        rw [List.getElem?_drop] at hu
        rw [Addr.add_lit]
        exact HA.out.2.2.2.2.2.2.1 (i * 3 + j) u hu
      have H4 : Hid (I * 3 + (X.drop (i * 3)).length ≤ cur.length) := by
        show _ ≤ _
        rw [HL.out.2.1, HA.out.1]
        have := HK.out; omega
      have hS0 : g < w.drew.heap.size := hgc
      have H3d : Hid (w.drew.heap[g]? = some (.cells cur.toArray 63 (0, 0))) := HA.out.2.2.2.1
      go_region_held3 (fun w' => g < w'.heap.size) (first | assumption | exact hS0) (first | (refine elT.step_copy rfl (.tmp 73) (.tmp 76) rfl (some ⟨g, I * 3, none⟩) (some ⟨g, i * 3, none⟩) (n - i) (cap - I) (N - i) (cap - i) rfl rfl g (I * 3) cur H3d.out (X.drop (i * 3)) H6.out (fun _ => ⟨rfl, _, rfl, H5.out⟩) H4.out HT.out.2 ?_; intro w4 hg4 hb4; have hS2 : g < w4.heap.size := Nat.lt_of_lt_of_le hS0 hb4.size))
      have H8 : Hid (w4.heap[g]? = some (.cells (splice cur (I * 3) (X.drop (i * 3))).toArray 63 (0, 0)) ∧ w.grownBy w4 (some g)) := ⟨hg4.out, gb_comp (gb_drew (World.grownBy.refl _ (some g))) hb4 (Or.inl rfl)⟩
      clear hg4 hb4 H3d H5 H6
      generalize hsc : splice cur (I * 3) (X.drop (i * 3)) = sc at H8
      have HSC : Hid (splice cur (I * 3) (X.drop (i * 3)) = sc ∧ sc.length = cap * 3) := ⟨hsc, by rw [← hsc, length_splice _ _ _ H4.out]; exact HA.out.1⟩
      have H9 : Hid (H.length = Nat.min m (N - i) * 3) := by show H.length = min m _ * 3; rw [HL.out.2.2, Nat.min_eq_left (by have := HK.out; omega)]
      have H7 : Hid (∀ j u, H[j]? = some u → w4.cell? ((⟨gh, 0, none⟩ : Addr).add j) = some u) := fun j u hu => by
        have h1 := HA.out.2.2.2.2.2.2.2 j u hu
        rw [Addr.add_lit] at h1 ⊢
        exact (World.cell?_of_block (H8.out.2.block gh (cell_lt h1) (fun e => hgne (by injection e)))).trans h1
      have H3 : Hid (i * 3 + H.length ≤ sc.length) := by show _ ≤ _; rw [HL.out.2.2, HSC.out.2]; have := HK.out; omega
      clear hsc
      have T2 : Hid True := trivial
      go_wp2_with (first
        | (have _ := T2
           refine elT.wpList_copy rfl _ _ rfl (some ⟨g, i * 3, none⟩) (some ⟨gh, 0, none⟩) (N - i) (cap - i) m ch rfl rfl g (i * 3) sc H8.out.1 H H9.out (fun _ => ⟨rfl, _, rfl, H7.out⟩) H3.out H1.out.2 ?_
           intro w5 hg5 hb5
           clear T2
           have H5 : Hid (w5.heap[g]? = some (.cells (splice sc (i * 3) H).toArray 63 (0, 0)) ∧ w.grownBy w5 (some g)) := ⟨hg5.out, gb_comp H8.out.2 hb5 (Or.inl rfl)⟩
           clear hg5 hb5))
      go_ret
      refine ⟨_, rfl, HF.out w5 g cap _ HA.out.2.2.2.2.2.1 H5.out.1 (by have := HK.out; omega) HQ.out.2.2.2.2 ?_ ?_, Or.inl rfl, H5.out.2⟩
      · rw [length_splice _ _ _ H3.out, HSC.out.2]
      · have := spl3 cur (X.take (i * 3)) H (X.drop (i * 3)) (i * 3) (m * 3) ((n - i) * 3) HA.out.2.2.1 HL.out.1 HL.out.2.2 HL.out.2.1 (by rw [HA.out.1]; have := HK.out; omega)
        rw [← HSC.out.1]
        rw [show I * 3 = i * 3 + m * 3 from by have := HK.out; omega]
        exact this
end Go.Proofs.Ytemapnfbmhjlbaa
