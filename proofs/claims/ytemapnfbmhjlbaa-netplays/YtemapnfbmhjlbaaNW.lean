/- net: Set. -/
import Derived.Test.YtemapnfbmhjlbaaNV
import Derived.Test.YtemapnfbmhjlbaaNIJ
import Derived.Test.YtemapnfbmhjlbaaNO
namespace Go.Proofs.Ytemapnfbmhjlbaa
open Go.RowKit Go.Maps Go.Joins
set_option linter.unusedSimpArgs false
set_option linter.unusedVariables false
def insT (l : List TM) (t : TM) : List TM := l.take (slot l t.at_) ++ [t] ++ l.drop (slot l t.at_)
def nSet (A : NA) (node tag delay : Int) : Int × NA :=
  if isB A.nodes node = false then (1, A) else if delay < 0 then (1, A) else if 1099511627776 - A.clk < delay then (1, A) else if 4096 ≤ A.tm.length then (3, A) else (0, { A with tm := insT A.tm ⟨node, tag, A.clk + delay⟩ })
theorem set_nil (w : World) (x y z : Int) : Calls Try.prog 18 #[.pointer none, .int .i64 x, .int .i64 y, .int .i64 z] w fun e w' => e = .returned (.int .i64 2) ∧ Below w.heap.size w w' := by
  go_enter Try.func18, Try.ntmps18
  go_wp2
  go_ret
  exact ⟨rfl, (Below.refl _ w).alloc (Nat.le_refl _) _⟩
def boxN (w : World) (b : Nat) : World := w.alloc (.cells #[.pointer (some ⟨b, 0, none⟩)] 23)
theorem boxN_below (w : World) (b : Nat) : Below w.heap.size w (boxN w b) := (Below.refl _ w).alloc (Nat.le_refl _) _
theorem boxN_at (w : World) (b : Nat) : (boxN w b).heap[w.heap.size]? = some (.cells #[.pointer (some ⟨b, 0, none⟩)] 23) := heap_alloc_new _ _
set_option maxRecDepth 100000 in
set_option maxHeartbeats 8000000 in
/-- Set, refused ahead of the clock. -/
theorem set_no1 {w : World} {b : Nat} {N : NS} (h : NetIs w b N) (node tag delay : Int) (hc : isB N.nodes node = false ∨ delay < 0) :
    Calls Try.prog 18 #[.pointer (some ⟨b, 0, none⟩), .int .i64 node, .int .i64 tag, .int .i64 delay] w fun e w' => e = .returned (.int .i64 1) ∧ Below w.heap.size w w' := by
  have hnot : ∀ (x : Bool) (w : World), (Op.unary .not (.bool x)).run Try.prog w = .ok (.bool (!x)) w := fun _ _ => rfl
  have hb := h.lt
  have HI : Hid _ := is_any (h.below (boxN_below w b)) node
  unfold boxN at HI
  cases hi : isB N.nodes node
  · rw [hi] at HI
    clear h hc hi
    go_enter Try.func18, Try.ntmps18
    go_wp2_with (go_at_call 29; refine Calls.mono HI.out ?_; rintro e w1 ⟨rfl, rfl⟩)
    go_ret
    exact ⟨rfl, (Below.refl _ w).alloc (Nat.le_refl _) _⟩
  · rw [hi] at HI
    have hd : delay < 0 := by rcases hc with hc | hc; rw [hi] at hc; cases hc; exact hc
    have hd' : decide (delay < 0) = true := by simpa using hd
    clear h hc hi
    go_enter Try.func18, Try.ntmps18
    go_wp2_with (go_at_call 29; refine Calls.mono HI.out ?_; rintro e w1 ⟨rfl, rfl⟩)
    go_ret
    exact ⟨rfl, (Below.refl _ w).alloc (Nat.le_refl _) _⟩
set_option maxRecDepth 100000 in
set_option maxHeartbeats 8000000 in
/-- Set, refused behind it. -/
theorem set_no2 {w : World} {b : Nat} {N : NS} (h : NetIs w b N) (ho : NOk N) (node tag delay : Int) (hc : isB N.nodes node = true) (hd : 0 ≤ delay) (hx : 1099511627776 - N.clk < delay ∨ 4096 ≤ N.tm.length) :
    Calls Try.prog 18 #[.pointer (some ⟨b, 0, none⟩), .int .i64 node, .int .i64 tag, .int .i64 delay] w fun e w' => StR w b N (if 1099511627776 - N.clk < delay then 1 else 3, absN N) e w' := by
  have hnot : ∀ (x : Bool) (w : World), (Op.unary .not (.bool x)).run Try.prog w = .ok (.bool (!x)) w := fun _ _ => rfl
  have hb := h.lt
  have h0 := h.below (boxN_below w b)
  have HI : Hid _ := is_any h0 node
  have HL : Hid _ := left_any h0 ho.ck
  unfold boxN at HI HL
  rw [hc] at HI
  have hd' : decide (delay < 0) = false := by simp; omega
  obtain ⟨ta, tc, htv⟩ := row_form h.tm
  obtain ⟨n, hn⟩ : ∃ n, n = N.tm.length := ⟨_, rfl⟩
  rw [← hn] at htv hx
  have HS : Hid (NetIs w b N ∧ N.tv = .slice ta n tc ∧ N.own w.heap.size = 0) := ⟨h, htv, h.fresh _ (Nat.le_refl _)⟩
  by_cases hl : 1099511627776 - N.clk < delay
  · have hl' : decide (1099511627776 - N.clk < delay) = true := by simpa using hl
    rw [if_pos hl]
    generalize 1099511627776 - N.clk = L at *
    clear h h0 ho hc hd htv hn hx
    go_enter Try.func18, Try.ntmps18
    go_wp2_with (first
      | (go_at_call 29; refine Calls.mono HI.out ?_; rintro e w1 ⟨rfl, rfl⟩; clear HI)
      | (go_at_call 36; refine Calls.mono HL.out ?_; rintro e w1 ⟨rfl, g, q1, q2⟩; have HQ : Hid (NetIs w1 b (setCk N g) ∧ NFr (boxN w b) w1 N (setCk N g)) := ⟨q1, q2⟩; clear q1 q2 HL))
    go_ret
    exact ⟨rfl, _, HQ.out.1, (NFr.below (boxN_below w b)).trans HQ.out.2, rfl⟩
  · have hl' : decide (1099511627776 - N.clk < delay) = false := by simpa using hl
    have hn4 : (4096 : Int) ≤ (n : Int) := by rcases hx with hx | hx; exact absurd hx hl; omega
    rw [if_neg hl]
    generalize 1099511627776 - N.clk = L at *
    clear h h0 ho hc hd htv hn hx
    go_enter Try.func18, Try.ntmps18
    go_wp2_with (first
      | (go_at_call 29; refine Calls.mono HI.out ?_; rintro e w1 ⟨rfl, rfl⟩; clear HI)
      | (go_at_call 36; refine Calls.mono HL.out ?_; rintro e w1 ⟨rfl, g, q1, q2⟩; have HQ : Hid (NetIs w1 b (setCk N g) ∧ NFr (boxN w b) w1 N (setCk N g)) := ⟨q1, q2⟩; have c7 : w1.cell? ⟨b, 7, none⟩ = some (.slice ta n tc) := q1.cells.2.2.2.2.2.2.2.trans (by show some N.tv = _; rw [HS.out.2.1]); have k0 : w1.cell? ⟨w.heap.size, 0, none⟩ = some (.pointer (some ⟨b, 0, none⟩)) := (cell_of_block ((q2.block w.heap.size (by simp) HS.out.2.2).trans (boxN_at w b)) 0).trans rfl; clear q1 q2 HL))
    go_ret
    exact ⟨rfl, _, HQ.out.1, (NFr.below (boxN_below w b)).trans HQ.out.2, rfl⟩
set_option maxRecDepth 100000 in
set_option maxHeartbeats 8000000 in
/-- Set. -/
theorem set_ok {w : World} {b : Nat} {N : NS} (h : NetIs w b N) (ho : NOk N) (hs : Asc N.tm) (node tag delay : Int) (hc : isB N.nodes node = true) (hd : 0 ≤ delay) (hl : ¬ 1099511627776 - N.clk < delay) (hf : ¬ 4096 ≤ N.tm.length) :
    Calls Try.prog 18 #[.pointer (some ⟨b, 0, none⟩), .int .i64 node, .int .i64 tag, .int .i64 delay] w fun e w' => StR w b N (0, { absN N with tm := insT N.tm ⟨node, tag, N.clk + delay⟩ }) e w' := by
  have hnot : ∀ (x : Bool) (w : World), (Op.unary .not (.bool x)).run Try.prog w = .ok (.bool (!x)) w := fun _ _ => rfl
  have hmf : ∀ (fn : Fn) (first cap : Array Value) (w : World), (Instr.makeFunc fn first cap).run Try.prog w = .ok (.func fn first cap) w := fun _ _ _ _ => rfl
  have hb := h.lt
  have h0 := h.below (boxN_below w b)
  have HI : Hid _ := is_any h0 node
  have HL : Hid _ := left_any h0 ho.ck
  unfold boxN at HI HL
  rw [hc] at HI
  have hd' : decide (delay < 0) = false := by simp; omega
  obtain ⟨ta, tc, htv⟩ := row_form h.tm
  have hta : ∀ ad, ta = some ad → ∃ g, ad = ⟨g, 0, none⟩ := fun ad he => by
    rcases h.tm.2 with ⟨e, _⟩ | ⟨g, cap, cur, e, _⟩
    · rw [htv] at e; injection e with e; rw [he] at e; cases e
    · rw [htv] at e; injection e with e; rw [he] at e; injection e with e; exact ⟨g, e⟩
  obtain ⟨n, hn⟩ : ∃ n, n = N.tm.length := ⟨_, rfl⟩
  rw [← hn] at htv hf
  have hn4 : ¬ (4096 : Int) ≤ (n : Int) := by omega
  have hl' : decide (1099511627776 - N.clk < delay) = false := by simpa using hl
  have hck := ho.ck
  obtain ⟨b0, b9⟩ := ho.ck
  obtain ⟨T, hT⟩ : ∃ T, T = N.clk + delay := ⟨_, rfl⟩
  have HS : Hid (NetIs w b N ∧ NOk N ∧ Asc N.tm ∧ N.tv = .slice ta n tc ∧ n = N.tm.length ∧ N.own w.heap.size = 0 ∧ (∀ ad, ta = some ad → ∃ g, ad = ⟨g, 0, none⟩) ∧ n < 4096 ∧ T = N.clk + delay) := ⟨h, ho, hs, htv, hn, h.fresh _ (Nat.le_refl _), hta, by omega, hT⟩
  rw [← hT]
  have hT2 : N.clk + delay = T := hT.symm
  obtain ⟨C, hC⟩ : ∃ C, C = N.clk := ⟨_, rfl⟩
  rw [← hC] at hl hl' b0 b9 hT2 HL
  have HC : Hid (C = N.clk) := hC
  clear h h0 ho hc htv hn hs hta hf hck hT hC
  go_enter Try.func18, Try.ntmps18
  go_wp2_with (first
      | (go_at_call 29; refine Calls.mono HI.out ?_; rintro e w1 ⟨rfl, rfl⟩; clear HI)
      | (go_at_call 36; refine Calls.mono HL.out ?_; rintro e w1 ⟨rfl, g, q1, q2⟩
         have HQ : Hid (NetIs w1 b (setCk N g) ∧ NFr (boxN w b) w1 N (setCk N g) ∧ w1.heap[w.heap.size]? = some (.cells #[.pointer (some ⟨b, 0, none⟩)] 23)) := ⟨q1, q2, (q2.block w.heap.size (by simp) HS.out.2.2.2.2.2.1).trans (boxN_at w b)⟩
         have c7 : w1.cell? ⟨b, 7, none⟩ = some (.slice ta n tc) := q1.cells.2.2.2.2.2.2.2.trans (by show some N.tv = _; rw [HS.out.2.2.2.1])
         have k0 : w1.cell? ⟨w.heap.size, 0, none⟩ = some (.pointer (some ⟨b, 0, none⟩)) := (cell_of_block HQ.out.2.2 0).trans rfl
         have hnow := now_ck q1 (g := g) rfl
         rw [show (setCk N g).clk = C from HC.out.symm] at hnow
         have HN : Hid _ := hnow
         have hbl : b < w1.heap.size := q1.lt
         have hwl : w.heap.size < w1.heap.size := cell_lt k0
         unfold boxed at HN
         clear q1 q2 HL hnow)
      | (go_at_call 37; refine Calls.mono HN.out ?_; rintro e w2 ⟨rfl, rfl⟩; clear HN))
  obtain ⟨W3, hW3⟩ : ∃ W3, W3 = (w1.alloc (.cells #[.pointer (some ⟨b, 0, none⟩)] 105)).alloc (.cells #[.int .i64 node, .int .i64 tag, .int .i64 T] 63) := ⟨_, rfl⟩
  obtain ⟨tb, htb⟩ : ∃ tb, tb = w1.heap.size + 1 := ⟨_, rfl⟩
  obtain ⟨nb, hnb⟩ : ∃ nb, nb = w.heap.size := ⟨_, rfl⟩
  have hB3 : Below w1.heap.size w1 W3 := by rw [hW3]; exact ((Below.refl _ w1).alloc (Nat.le_refl _) _).alloc (by simp) _
  have ht3 : W3.heap[tb]? = some (.cells #[.int .i64 node, .int .i64 tag, .int .i64 T] 63) := by
    have := heap_alloc_new (w1.alloc (.cells #[.pointer (some ⟨b, 0, none⟩)] 105)) (.cells #[.int .i64 node, .int .i64 tag, .int .i64 T] 63)
    rw [hW3, htb]
    simpa using this
  have H3 : Hid (NetIs W3 b (setCk N g) ∧ NFr w W3 N (setCk N g) ∧ W3.heap[nb]? = some (.cells #[.pointer (some ⟨b, 0, none⟩)] 23) ∧ W3.heap[tb]? = some (.cells #[.int .i64 node, .int .i64 tag, .int .i64 T] 63) ∧ w.heap.size ≤ nb ∧ w1.heap.size ≤ tb) := ⟨HQ.out.1.below hB3, ((NFr.below (boxN_below w b)).trans HQ.out.2.1).trans (NFr.below hB3), (hB3.block nb (by omega)).trans (by rw [hnb]; exact HQ.out.2.2), ht3, by omega, by omega⟩
  rw [← hW3, ← htb, ← hnb]
  have hsr := srch_any (w := W3) (nb := nb) (b := b) (tb := tb) (n := n) (c := tc) (a := ta) (T := T) (l := N.tm) HS.out.2.2.2.2.1 (by have := HS.out; omega) ((cell_of_block H3.out.2.2.1 0).trans rfl) (H3.out.1.cells.2.2.2.2.2.2.2.trans (by show some N.tv = _; rw [HS.out.2.2.2.1])) (TmV.of (n := n) (c := tc) (base := 0) (by have h1 := H3.out.1.tm; rw [show (setCk N g).tv = .slice ta n tc from HS.out.2.2.2.1] at h1; exact h1)) ((cell_of_block H3.out.2.2.2.1 2).trans rfl) HS.out.2.2.1 HS.out.2.2.2.2.2.2.1
  refine Calls.mono hsr ?_
  rintro e w4 ⟨rfl, hb4⟩
  have H4 : Hid (NetIs w4 b (setCk N g) ∧ NFr w w4 N (setCk N g) ∧ w4.heap[nb]? = some (.cells #[.pointer (some ⟨b, 0, none⟩)] 23) ∧ w4.heap[tb]? = some (.cells #[.int .i64 node, .int .i64 tag, .int .i64 T] 63) ∧ nb ≠ b ∧ tb ≠ b ∧ N.own nb = 0 ∧ (setCk N g).own nb = 0 ∧ (setCk N g).own tb = 0) := ⟨H3.out.1.below hb4, H3.out.2.1.trans (NFr.below hb4), (hb4.block nb (heap_lt H3.out.2.2.1)).trans H3.out.2.2.1, (hb4.block tb (heap_lt H3.out.2.2.2.1)).trans H3.out.2.2.2.1, by omega, by omega, by rw [hnb]; exact HS.out.2.2.2.2.2.1, HQ.out.2.1.own nb (by rw [hnb]; simp [boxN]) (by rw [hnb]; exact HS.out.2.2.2.2.2.1), HQ.out.1.fresh tb (by omega)⟩
  have hsl := slot_le N.tm T
  obtain ⟨s, hs⟩ : ∃ s, s = slot N.tm T := ⟨_, rfl⟩
  rw [← hs] at hsl ⊢
  have HSL : Hid (s = slot N.tm T ∧ s ≤ n) := ⟨hs, by have := HS.out; omega⟩
  clear hs hsl hsr hb4 H3 hB3 ht3 hW3 c7 k0 HQ htb hnb
  go_wp2_with fail
  refine wp_region_held_drew (S := fun w' => w'.heap[nb]? = some (.cells #[.pointer (some ⟨b, 0, none⟩)] 23) ∧ w'.heap[tb]? = some (.cells #[.int .i64 node, .int .i64 tag, .int .i64 T] 63)) (by kernel_rfl) ⟨H4.out.2.2.1, H4.out.2.2.2.1⟩ (fun hHeld => ?_)
  refine wpAnyH_take (i := 0) (v := .pointer (some ⟨b, 0, none⟩)) rfl (by kernel_rfl) (by kernel_rfl) (by kernel_rfl) (fun _ _ _ h => h) (Or.inl ⟨by rfl, fun w9 hSw => ?_⟩) hHeld ?_
  · have hc : w9.cell? ⟨nb, 0, none⟩ = some (.pointer (some ⟨b, 0, none⟩)) := (cell_of_block hSw.1 0).trans rfl
    go_simp
  simp only [List.getElem_toArray, List.getElem_cons_succ, List.getElem_cons_zero, Act.put, List.setIfInBounds_toArray, List.set_cons_zero, List.set_cons_succ]
  refine wpAnyH_take (i := 1) (v := .pointer (some ⟨b, 0, none⟩)) rfl (by kernel_rfl) (by kernel_rfl) (by kernel_rfl) (fun _ _ _ h => h) (Or.inl ⟨by rfl, fun w9 hSw => ?_⟩) hHeld ?_
  · have hc : w9.cell? ⟨nb, 0, none⟩ = some (.pointer (some ⟨b, 0, none⟩)) := (cell_of_block hSw.1 0).trans rfl
    go_simp
  simp only [List.getElem_toArray, List.getElem_cons_succ, List.getElem_cons_zero, Act.put, List.setIfInBounds_toArray, List.set_cons_zero, List.set_cons_succ]
  refine wpAnyH_take (i := 2) (v := .pointer (some ⟨b, 0, none⟩)) rfl (by kernel_rfl) (by kernel_rfl) (by kernel_rfl) (fun _ _ _ h => h) (Or.inl ⟨by rfl, fun w9 hSw => ?_⟩) hHeld ?_
  · go_simp
  simp only [List.getElem_toArray, List.getElem_cons_succ, List.getElem_cons_zero, Act.put, List.setIfInBounds_toArray, List.set_cons_zero, List.set_cons_succ]
  refine wpAnyH_take (i := 3) (v := .pointer (some ⟨b, 7, none⟩)) rfl (by kernel_rfl) (by kernel_rfl) (by kernel_rfl) (fun _ _ _ h => h) (Or.inl ⟨by rfl, fun w9 hSw => ?_⟩) hHeld ?_
  · go_simp
  simp only [List.getElem_toArray, List.getElem_cons_succ, List.getElem_cons_zero, Act.put, List.setIfInBounds_toArray, List.set_cons_zero, List.set_cons_succ]
  refine wpAnyH_take (i := 5) (v := .int .i64 (s : Nat)) rfl (by kernel_rfl) (by kernel_rfl) (by kernel_rfl) (fun _ _ _ h => h) (Or.inl ⟨by rfl, fun w9 hSw => ?_⟩) hHeld ?_
  · go_simp
  simp only [List.getElem_toArray, List.getElem_cons_succ, List.getElem_cons_zero, Act.put, List.setIfInBounds_toArray, List.set_cons_zero, List.set_cons_succ]
  refine wpAnyH_take (i := 6) (v := .agg #[.int .i64 node, .int .i64 tag, .int .i64 T]) rfl (by kernel_rfl) (by kernel_rfl) (by kernel_rfl) (fun _ _ _ h => h) (Or.inl ⟨by rfl, fun w9 hSw => ?_⟩) hHeld ?_
  · have k0 : w9.cell? ⟨tb, 0, none⟩ = some (.int .i64 node) := (cell_of_block hSw.2 0).trans rfl
    have k1 : w9.cell? ⟨tb, 1, none⟩ = some (.int .i64 tag) := (cell_of_block hSw.2 1).trans rfl
    have k2 : w9.cell? ⟨tb, 2, none⟩ = some (.int .i64 T) := (cell_of_block hSw.2 2).trans rfl
    go_simp
  simp only [List.getElem_toArray, List.getElem_cons_succ, List.getElem_cons_zero, Act.put, List.setIfInBounds_toArray, List.set_cons_zero, List.set_cons_succ]
  have H5 : Hid (NetIs w4.drew b (setCk N g) ∧ NFr w w4.drew N (setCk N g)) := ⟨H4.out.1.below ⟨rfl, rfl, rfl, Nat.le_refl _, fun _ _ => rfl⟩, H4.out.2.1.trans (NFr.below ⟨rfl, rfl, rfl, Nat.le_refl _, fun _ _ => rfl⟩)⟩
  have HD : Hid (nb ≠ b ∧ tb ≠ b ∧ (setCk N g).own nb = 0 ∧ (setCk N g).own tb = 0) := ⟨H4.out.2.2.2.2.1, H4.out.2.2.2.2.2.1, H4.out.2.2.2.2.2.2.2.1, H4.out.2.2.2.2.2.2.2.2⟩
  have hc7 : w4.drew.cell? ⟨b, 7, none⟩ = some (.slice ta n tc) := H5.out.1.cells.2.2.2.2.2.2.2.trans (by show some N.tv = _; rw [HS.out.2.2.2.1])
  clear H4
  generalize w4.drew = w5 at hHeld H5 hc7 ⊢
  have HX : Hid (∃ w6 g6, w6 = w5.alloc (.cells #[.int .i64 node, .int .i64 tag, .int .i64 T] 63) ∧ g6 = w5.heap.size ∧ Below w5.heap.size w5 w6 ∧ w6.ownsRow 0 63 3 (.slice ta n tc) n (tmL N.tm) ∧ w6.ownsRow g6 63 3 (.slice (some ⟨g6, 0, none⟩) 1 1) 1 (tmC ⟨node, tag, T⟩) ∧ w6.heap[nb]? = some (.cells #[.pointer (some ⟨b, 0, none⟩)] 23) ∧ w6.heap[tb]? = some (.cells #[.int .i64 node, .int .i64 tag, .int .i64 T] 63) ∧ w6.cell? ⟨b, 7, none⟩ = some (.slice ta n tc)) := by
    have hB6 : Below w5.heap.size w5 (w5.alloc (.cells #[.int .i64 node, .int .i64 tag, .int .i64 T] 63)) := (Below.refl _ w5).alloc (Nat.le_refl _) _
    refine ⟨_, _, rfl, rfl, hB6, ?_, ⟨rfl, Or.inr ⟨_, 1, _, rfl, Nat.le_refl _, heap_alloc_new _ _, Nat.le_refl _, by decide, rfl, rfl⟩⟩, (hB6.block nb (heap_lt hHeld.1)).trans hHeld.1, (hB6.block tb (heap_lt hHeld.2)).trans hHeld.2, (hB6.cell H5.out.1.lt).trans hc7⟩
    have h1 := (H5.out.1.below hB6).tm
    rw [show (setCk N g).tv = .slice ta n tc from HS.out.2.2.2.1, show (setCk N g).tm = N.tm from rfl, ← HS.out.2.2.2.2.1] at h1
    exact h1
  obtain ⟨w6, g6, hw6, hg6, q⟩ := HX.out
  have H6 : Hid (Below w5.heap.size w5 w6 ∧ w6.ownsRow 0 63 3 (.slice ta n tc) n (tmL N.tm) ∧ w6.ownsRow g6 63 3 (.slice (some ⟨g6, 0, none⟩) 1 1) 1 (tmC ⟨node, tag, T⟩) ∧ (w6.heap[nb]? = some (.cells #[.pointer (some ⟨b, 0, none⟩)] 23) ∧ w6.heap[tb]? = some (.cells #[.int .i64 node, .int .i64 tag, .int .i64 T] 63))) := ⟨q.1, q.2.1, q.2.2.1, q.2.2.2.1, q.2.2.2.2.1⟩
  have hc76 : w6.cell? ⟨b, 7, none⟩ = some (.slice ta n tc) := q.2.2.2.2.2
  have HW6 : Hid (w6 = w5.alloc (.cells #[.int .i64 node, .int .i64 tag, .int .i64 T] 63) ∧ g6 = w5.heap.size) := ⟨hw6, hg6⟩
  clear q HX hw6 hg6
  refine wpAnyH_ready (rs := [4, 7]) (by kernel_rfl) (by simp) ?_
  refine AllReadyH.cons rfl (fun K hK => ?_) (AllReadyH.cons rfl (fun K hK => ?_) AllReadyH.nil)
  · go_simp
    have H7o := hHeld
    refine hK.out _ _ hHeld (fun hHeld => ?_)
    clear hK K
    try simp only [List.getElem_toArray, List.getElem_cons_succ, List.getElem_cons_zero, Act.put, List.setIfInBounds_toArray, List.set_cons_zero, List.set_cons_succ]
    refine wpAnyH_ready (rs := [7]) (by kernel_rfl) (by simp) ?_
    refine AllReadyH.cons rfl (fun K hK => ?_) AllReadyH.nil
    go_simp
    have hw6 := HW6.out.1
    have hg6 := HW6.out.2
    rw [← hw6, ← hg6]
    have hH6 := H6.out.2.2.2
    clear hw6 hg6 hc76
    go_wp2_with fail
    refine hK.out _ _ hH6 (fun hHeld => ?_)
    clear hK K
    try simp only [List.getElem_toArray, List.getElem_cons_succ, List.getElem_cons_zero, Act.put, List.setIfInBounds_toArray, List.set_cons_zero, List.set_cons_succ]
    refine wpAnyH_ready (rs := [8]) (by kernel_rfl) (by simp) ?_
    refine AllReadyH.cons rfl (fun K hK => ?_) AllReadyH.nil
    have HI : Hid _ := insert_any (w := w6) (base := 0) (base2 := g6) (.slice ta n tc) (.slice (some ⟨g6, 0, none⟩) 1 1) (tmL N.tm) (tmC ⟨node, tag, T⟩) n 1 s HSL.out.2 H6.out.2.1 H6.out.2.2.1 (fun x hx e => by
      injection hx with hx
      have h1 : g6 = x := hx
      have h2 := H5.out.1.tm.lt x (by rw [show (setCk N g).tv = .slice ta n tc from HS.out.2.2.2.1]; exact e)
      have := HW6.out.2
      omega) (by decide) (by decide) (by have := HS.out; omega) (tmL_one _) (fun u hu => by simp only [tmC, List.mem_cons, List.not_mem_nil, or_false] at hu; rcases hu with rfl | rfl | rfl <;> rfl) (Nat.zero_le _)
    go_simp
    refine Calls.mono HI.out ?_
    rintro e w7 ⟨v7, rfl, o7, a7, g7⟩
    obtain ⟨va, vc, rfl⟩ := row_form o7
    have hg57 : w5.grownBy w7 (setCk N g).tv.ownBlock := gb_comp (gb_of_below H6.out.1 _) g7 (Or.inl (by rw [show (setCk N g).tv = .slice ta n tc from HS.out.2.2.2.1]))
    have hcut : tmL (insT N.tm ⟨node, tag, T⟩) = (tmL N.tm).take (s * 3) ++ tmC ⟨node, tag, T⟩ ++ (tmL N.tm).drop (s * 3) := by
      unfold insT
      rw [tmL_append, tmL_append, tmL_take, tmL_drop, ← HSL.out.1]
      simp [tmL]
    have hlen : (insT N.tm ⟨node, tag, T⟩).length = n + 1 := by
      unfold insT
      have := HSL.out; have := HS.out
      simp only [List.length_append, List.length_take, List.length_drop, List.length_cons, List.length_nil]
      omega
    have hend := setT_end (v := .slice va (n + 1) vc) (l := insT N.tm ⟨node, tag, T⟩) H5.out.1 hg57 (by rw [hcut, hlen]; exact o7) (by
      rcases a7 with e | ⟨x, e1, e2⟩
      · exact Or.inl (by rw [show (setCk N g).tv = .slice ta n tc from HS.out.2.2.2.1]; exact e)
      · exact Or.inr (fun y hy => by rw [e1] at hy; injection hy with hy; have := H6.out.1.size; omega))
    have hnb : ∀ x, (setCk N g).own x ≠ 4 → x < w5.heap.size → w7.heap[x]? = w5.heap[x]? := fun x h3 hx => hg57.block x hx (fun e => h3 (H5.out.1.rt x e.symm))
    have hb7 : w7.heap[b]? = some (.cells (nC (setCk N g)) 82) := (hnb b (by rw [H5.out.1.rn]; decide) H5.out.1.lt).trans H5.out.1.net
    have hS7 : w7.heap[nb]? = some (.cells #[.pointer (some ⟨b, 0, none⟩)] 23) ∧ w7.heap[tb]? = some (.cells #[.int .i64 node, .int .i64 tag, .int .i64 T] 63) := ⟨(hnb nb (by rw [HD.out.2.2.1]; decide) (heap_lt H7o.1)).trans H7o.1, (hnb tb (by rw [HD.out.2.2.2]; decide) (heap_lt H7o.2)).trans H7o.2⟩
    have hS8 : (w7.setCell ⟨b, 7, none⟩ (.slice va (n + 1) vc)).heap[nb]? = some (.cells #[.pointer (some ⟨b, 0, none⟩)] 23) ∧ (w7.setCell ⟨b, 7, none⟩ (.slice va (n + 1) vc)).heap[tb]? = some (.cells #[.int .i64 node, .int .i64 tag, .int .i64 T] 63) := ⟨(Below.heap_setCell _ _ _ _ HD.out.1).trans hS7.1, (Below.heap_setCell _ _ _ _ HD.out.2.1).trans hS7.2⟩
    have d7 : w7.cell? ⟨b, 7, none⟩ = some (.slice ta n tc) := by rw [cell_of_block hb7]; show some N.tv = _; rw [HS.out.2.2.2.1]
    have z7 : w7.frozen? ⟨b, 7, none⟩ = false := unfrozen_of_block hb7 7
    have HE : Hid (NetIs (w7.setCell ⟨b, 7, none⟩ (.slice va (n + 1) vc)) b (setT (setCk N g) (.slice va (n + 1) vc) (insT N.tm ⟨node, tag, T⟩)) ∧ NFr w (w7.setCell ⟨b, 7, none⟩ (.slice va (n + 1) vc)) N (setT (setCk N g) (.slice va (n + 1) vc) (insT N.tm ⟨node, tag, T⟩))) := ⟨hend.1, H5.out.2.trans hend.2⟩
    clear o7 a7 g7 hg57 hcut hlen hend hnb hb7 hHeld HI
    go_wp2_with fail
    refine hK.out _ _ hS7 (fun hHeld => ?_)
    clear hK K
    try simp only [List.getElem_toArray, List.getElem_cons_succ, List.getElem_cons_zero, Act.put, List.setIfInBounds_toArray, List.set_cons_zero, List.set_cons_succ]
    refine wpAnyH_take (i := 9) (v := .pointer (some ⟨b, 0, none⟩)) rfl (by kernel_rfl) (by kernel_rfl) (by kernel_rfl) (fun _ _ _ h => h) (Or.inl ⟨by rfl, fun w9 hSw => ?_⟩) hHeld ?_
    · go_simp
    simp only [List.getElem_toArray, List.getElem_cons_succ, List.getElem_cons_zero, Act.put, List.setIfInBounds_toArray, List.set_cons_zero, List.set_cons_succ]
    refine wpAnyH_take (i := 10) (v := .pointer (some ⟨b, 7, none⟩)) rfl (by kernel_rfl) (by kernel_rfl) (by kernel_rfl) (fun _ _ _ h => h) (Or.inl ⟨by rfl, fun w9 hSw => ?_⟩) hHeld ?_
    · go_simp
    simp only [List.getElem_toArray, List.getElem_cons_succ, List.getElem_cons_zero, Act.put, List.setIfInBounds_toArray, List.set_cons_zero, List.set_cons_succ]
    refine wpAnyH_ready (rs := [11]) (by kernel_rfl) (by simp) ?_
    refine AllReadyH.cons rfl (fun K hK => ?_) AllReadyH.nil
    go_simp
    clear hS7 d7 z7
    obtain ⟨w8, hw8⟩ : ∃ w8, w8 = w7.setCell ⟨b, 7, none⟩ (.slice va (n + 1) vc) := ⟨_, rfl⟩
    rw [← hw8] at HE hS8 ⊢
    clear hw8
    have hS9 := hS8
    clear hS8
    go_wp2_with fail
    refine hK.out _ _ hS9 (fun hHeld => ?_)
    clear hK K
    try simp only [List.getElem_toArray, List.getElem_cons_succ, List.getElem_cons_zero, Act.put, List.setIfInBounds_toArray, List.set_cons_zero, List.set_cons_succ]
    refine wpAnyH_done (by kernel_rfl) ?_ _
    clear hHeld hS9
    go_wp2
    go_ret
    exact ⟨rfl, _, HE.out.1, HE.out.2, rfl⟩
  · go_simp
    have H7o := hHeld
    have hw6 := HW6.out.1
    have hg6 := HW6.out.2
    rw [← hw6, ← hg6]
    have hH6 := H6.out.2.2.2
    clear hw6 hg6
    go_wp2_with fail
    refine hK.out _ _ hH6 (fun hHeld => ?_)
    clear hK K
    try simp only [List.getElem_toArray, List.getElem_cons_succ, List.getElem_cons_zero, Act.put, List.setIfInBounds_toArray, List.set_cons_zero, List.set_cons_succ]
    refine wpAnyH_ready (rs := [4]) (by kernel_rfl) (by simp) ?_
    refine AllReadyH.cons rfl (fun K hK => ?_) AllReadyH.nil
    go_simp
    clear hc76
    refine hK.out _ _ hHeld (fun hHeld => ?_)
    clear hK K
    try simp only [List.getElem_toArray, List.getElem_cons_succ, List.getElem_cons_zero, Act.put, List.setIfInBounds_toArray, List.set_cons_zero, List.set_cons_succ]
    refine wpAnyH_ready (rs := [8]) (by kernel_rfl) (by simp) ?_
    refine AllReadyH.cons rfl (fun K hK => ?_) AllReadyH.nil
    have HI : Hid _ := insert_any (w := w6) (base := 0) (base2 := g6) (.slice ta n tc) (.slice (some ⟨g6, 0, none⟩) 1 1) (tmL N.tm) (tmC ⟨node, tag, T⟩) n 1 s HSL.out.2 H6.out.2.1 H6.out.2.2.1 (fun x hx e => by
      injection hx with hx
      have h1 : g6 = x := hx
      have h2 := H5.out.1.tm.lt x (by rw [show (setCk N g).tv = .slice ta n tc from HS.out.2.2.2.1]; exact e)
      have := HW6.out.2
      omega) (by decide) (by decide) (by have := HS.out; omega) (tmL_one _) (fun u hu => by simp only [tmC, List.mem_cons, List.not_mem_nil, or_false] at hu; rcases hu with rfl | rfl | rfl <;> rfl) (Nat.zero_le _)
    go_simp
    refine Calls.mono HI.out ?_
    rintro e w7 ⟨v7, rfl, o7, a7, g7⟩
    obtain ⟨va, vc, rfl⟩ := row_form o7
    have hg57 : w5.grownBy w7 (setCk N g).tv.ownBlock := gb_comp (gb_of_below H6.out.1 _) g7 (Or.inl (by rw [show (setCk N g).tv = .slice ta n tc from HS.out.2.2.2.1]))
    have hcut : tmL (insT N.tm ⟨node, tag, T⟩) = (tmL N.tm).take (s * 3) ++ tmC ⟨node, tag, T⟩ ++ (tmL N.tm).drop (s * 3) := by
      unfold insT
      rw [tmL_append, tmL_append, tmL_take, tmL_drop, ← HSL.out.1]
      simp [tmL]
    have hlen : (insT N.tm ⟨node, tag, T⟩).length = n + 1 := by
      unfold insT
      have := HSL.out; have := HS.out
      simp only [List.length_append, List.length_take, List.length_drop, List.length_cons, List.length_nil]
      omega
    have hend := setT_end (v := .slice va (n + 1) vc) (l := insT N.tm ⟨node, tag, T⟩) H5.out.1 hg57 (by rw [hcut, hlen]; exact o7) (by
      rcases a7 with e | ⟨x, e1, e2⟩
      · exact Or.inl (by rw [show (setCk N g).tv = .slice ta n tc from HS.out.2.2.2.1]; exact e)
      · exact Or.inr (fun y hy => by rw [e1] at hy; injection hy with hy; have := H6.out.1.size; omega))
    have hnb : ∀ x, (setCk N g).own x ≠ 4 → x < w5.heap.size → w7.heap[x]? = w5.heap[x]? := fun x h3 hx => hg57.block x hx (fun e => h3 (H5.out.1.rt x e.symm))
    have hb7 : w7.heap[b]? = some (.cells (nC (setCk N g)) 82) := (hnb b (by rw [H5.out.1.rn]; decide) H5.out.1.lt).trans H5.out.1.net
    have hS7 : w7.heap[nb]? = some (.cells #[.pointer (some ⟨b, 0, none⟩)] 23) ∧ w7.heap[tb]? = some (.cells #[.int .i64 node, .int .i64 tag, .int .i64 T] 63) := ⟨(hnb nb (by rw [HD.out.2.2.1]; decide) (heap_lt H7o.1)).trans H7o.1, (hnb tb (by rw [HD.out.2.2.2]; decide) (heap_lt H7o.2)).trans H7o.2⟩
    have hS8 : (w7.setCell ⟨b, 7, none⟩ (.slice va (n + 1) vc)).heap[nb]? = some (.cells #[.pointer (some ⟨b, 0, none⟩)] 23) ∧ (w7.setCell ⟨b, 7, none⟩ (.slice va (n + 1) vc)).heap[tb]? = some (.cells #[.int .i64 node, .int .i64 tag, .int .i64 T] 63) := ⟨(Below.heap_setCell _ _ _ _ HD.out.1).trans hS7.1, (Below.heap_setCell _ _ _ _ HD.out.2.1).trans hS7.2⟩
    have d7 : w7.cell? ⟨b, 7, none⟩ = some (.slice ta n tc) := by rw [cell_of_block hb7]; show some N.tv = _; rw [HS.out.2.2.2.1]
    have z7 : w7.frozen? ⟨b, 7, none⟩ = false := unfrozen_of_block hb7 7
    have HE : Hid (NetIs (w7.setCell ⟨b, 7, none⟩ (.slice va (n + 1) vc)) b (setT (setCk N g) (.slice va (n + 1) vc) (insT N.tm ⟨node, tag, T⟩)) ∧ NFr w (w7.setCell ⟨b, 7, none⟩ (.slice va (n + 1) vc)) N (setT (setCk N g) (.slice va (n + 1) vc) (insT N.tm ⟨node, tag, T⟩))) := ⟨hend.1, H5.out.2.trans hend.2⟩
    clear o7 a7 g7 hg57 hcut hlen hend hnb hb7 hHeld HI
    go_wp2_with fail
    refine hK.out _ _ hS7 (fun hHeld => ?_)
    clear hK K
    try simp only [List.getElem_toArray, List.getElem_cons_succ, List.getElem_cons_zero, Act.put, List.setIfInBounds_toArray, List.set_cons_zero, List.set_cons_succ]
    refine wpAnyH_take (i := 9) (v := .pointer (some ⟨b, 0, none⟩)) rfl (by kernel_rfl) (by kernel_rfl) (by kernel_rfl) (fun _ _ _ h => h) (Or.inl ⟨by rfl, fun w9 hSw => ?_⟩) hHeld ?_
    · go_simp
    simp only [List.getElem_toArray, List.getElem_cons_succ, List.getElem_cons_zero, Act.put, List.setIfInBounds_toArray, List.set_cons_zero, List.set_cons_succ]
    refine wpAnyH_take (i := 10) (v := .pointer (some ⟨b, 7, none⟩)) rfl (by kernel_rfl) (by kernel_rfl) (by kernel_rfl) (fun _ _ _ h => h) (Or.inl ⟨by rfl, fun w9 hSw => ?_⟩) hHeld ?_
    · go_simp
    simp only [List.getElem_toArray, List.getElem_cons_succ, List.getElem_cons_zero, Act.put, List.setIfInBounds_toArray, List.set_cons_zero, List.set_cons_succ]
    refine wpAnyH_ready (rs := [11]) (by kernel_rfl) (by simp) ?_
    refine AllReadyH.cons rfl (fun K hK => ?_) AllReadyH.nil
    go_simp
    clear hS7 d7 z7
    obtain ⟨w8, hw8⟩ : ∃ w8, w8 = w7.setCell ⟨b, 7, none⟩ (.slice va (n + 1) vc) := ⟨_, rfl⟩
    rw [← hw8] at HE hS8 ⊢
    clear hw8
    have hS9 := hS8
    clear hS8
    go_wp2_with fail
    refine hK.out _ _ hS9 (fun hHeld => ?_)
    clear hK K
    try simp only [List.getElem_toArray, List.getElem_cons_succ, List.getElem_cons_zero, Act.put, List.setIfInBounds_toArray, List.set_cons_zero, List.set_cons_succ]
    refine wpAnyH_done (by kernel_rfl) ?_ _
    clear hHeld hS9
    go_wp2
    go_ret
    exact ⟨rfl, _, HE.out.1, HE.out.2, rfl⟩
end Go.Proofs.Ytemapnfbmhjlbaa
