/- net: calls one behind the other; the law's example. -/
import Derived.Test.YtemapnfbmhjlbaaOC
import Derived.Test.YtemapnfbmhjlbaaNU
namespace Go.Proofs.Ytemapnfbmhjlbaa
open Go.RowKit Go.Maps Go.Joins
set_option linter.unusedSimpArgs false
set_option linter.unusedVariables false
/-- A net, since it was made. -/
structure St (w1 w : World) (b : Nat) (N1 N : NS) (A : NA) (M : Int) : Prop where
  net : NetIs w b N
  fr : NFr w1 w N1 N
  abs : absN N = A
  ok : AOk A M
theorem St.nok {w1 w : World} {b : Nat} {N1 N : NS} {A : NA} {M : Int} (h : St w1 w b N1 N A M) (hM : M ≤ 4611686018427387904) : NOk N := AOk.nok (by rw [h.abs]; exact h.ok) hM
theorem St.ris {w1 w : World} {b : Nat} {N1 N : NS} {A : NA} {M : Int} (h : St w1 w b N1 N A M) : Rise N.fl := AOk.ris (M := M) (by rw [h.abs]; exact h.ok)
theorem St.asc {w1 w : World} {b : Nat} {N1 N : NS} {A : NA} {M : Int} (h : St w1 w b N1 N A M) : Asc N.tm := by have := h.ok.asc; rw [← h.abs] at this; exact this
theorem St.new {w : World} (n : Int) {w1 : World} (h : NetIs w1 w.heap.size (newN w.heap.size n)) : St w1 w1 w.heap.size (newN w.heap.size n) (newN w.heap.size n) (A0 n) 0 := ⟨h, NFr.refl _ _, rfl, AOk.new n⟩
theorem St.below {w1 w w' : World} {b : Nat} {N1 N : NS} {A : NA} {M : Int} (h : St w1 w b N1 N A M) (hb : Below w.heap.size w w') : St w1 w' b N1 N A M := ⟨h.net.below hb, h.fr.trans (NFr.below hb), h.abs, h.ok⟩
theorem St.step {w1 w w' : World} {b : Nat} {N1 N : NS} {A : NA} {M M' : Int} {R : Int × NA} {e : Ending} (h : St w1 w b N1 N A M) (hr : StR w b N R e w') (ho : AOk R.2 M') : e = .returned (.int .i64 R.1) ∧ ∃ N', St w1 w' b N1 N' R.2 M' ∧ NFr w w' N N' := by
  obtain ⟨h1, N', h2, h3, h4⟩ := hr
  exact ⟨h1, N', ⟨h2, h.fr.trans h3, h4, ho⟩, h3⟩
theorem St.set {w1 w : World} {b : Nat} {N1 N : NS} {A : NA} {M : Int} (h : St w1 w b N1 N A M) (hM : M ≤ 4611686018427387904) (x y z : Int) :
    Calls Try.prog 18 #[.pointer (some ⟨b, 0, none⟩), .int .i64 x, .int .i64 y, .int .i64 z] w fun e w' => e = .returned (.int .i64 (nSet A x y z).1) ∧ ∃ N', St w1 w' b N1 N' (nSet A x y z).2 M ∧ NFr w w' N N' := by
  refine (set_any h.net (h.nok hM) h.asc x y z).mono ?_
  rw [h.abs]
  intro e w' hr
  exact h.step hr (h.ok.set x y z)
theorem St.send {w1 w : World} {b : Nat} {N1 N : NS} {A : NA} {M : Int} (h : St w1 w b N1 N A M) (hM : M ≤ 4611686018427387904) (x y : Int) (v : Value) (bs : List Int) (hv : BytesV w v bs) :
    Calls Try.prog 11 #[.pointer (some ⟨b, 0, none⟩), .int .i64 x, .int .i64 y, v] w fun e w' => e = .returned (.int .i64 (nSend A x y bs).1) ∧ ∃ N', St w1 w' b N1 N' (nSend A x y bs).2 (M + 1) ∧ NFr w w' N N' := by
  refine (send_any h.net (h.nok hM) x y v bs hv).mono ?_
  rw [h.abs]
  intro e w' hr
  exact h.step hr (h.ok.send x y bs)
theorem St.copy {w1 w : World} {b : Nat} {N1 N : NS} {A : NA} {M : Int} (h : St w1 w b N1 N A M) (hM : M ≤ 4611686018427387904) (x : Int) :
    Calls Try.prog 16 #[.pointer (some ⟨b, 0, none⟩), .int .i64 x] w fun e w' => e = .returned (.int .i64 (nCopy A x).1) ∧ ∃ N', St w1 w' b N1 N' (nCopy A x).2 (M + 1) ∧ NFr w w' N N' := by
  refine (copy_any h.net (h.nok hM) h.ris x).mono ?_
  rw [h.abs]
  intro e w' hr
  exact h.step hr (h.ok.copy x)
theorem St.take {w1 w : World} {b : Nat} {N1 N : NS} {A : NA} {M : Int} (h : St w1 w b N1 N A M) (hM : M ≤ 4611686018427387904) (x : Int) :
    Calls Try.prog 13 #[.pointer (some ⟨b, 0, none⟩), .int .i64 x] w fun e w' => ∃ q : PK, e = .returned (.tuple #[.agg #[.int .i64 q.id, .int .i64 q.fr, .int .i64 q.to, q.dv], .int .i64 (nTake A x).1]) ∧ pkA q = (nTake A x).2.1 ∧ BytesV w' q.dv q.bs ∧ ∃ N', St w1 w' b N1 N' (nTake A x).2.2 M ∧ NFr w w' N N' ∧ ∀ g, dBlock q.dv q.bs.length = some g → N'.own g = 0 := by
  refine (take_any h.net (h.nok hM) h.ris x).mono ?_
  rw [h.abs]
  rintro e w' ⟨q, N', h1, h2, h3, h4, h5, h6, h7⟩
  exact ⟨q, h1, h2, h6, N', ⟨h3, h.fr.trans h4, h5, h.ok.take x⟩, h4, fun g hg => (h7 g hg).1⟩
theorem St.tick {w1 w : World} {b : Nat} {N1 N : NS} {A : NA} {M : Int} (h : St w1 w b N1 N A M) (hM : M ≤ 4611686018427387904) (x : Int) :
    Calls Try.prog 23 #[.pointer (some ⟨b, 0, none⟩), .int .i64 x] w fun e w' => ∃ v, e = .returned v ∧ w'.ownsRow w.heap.size 63 3 v (nTick A x).1.length (tmL (nTick A x).1) ∧ ∃ N', St w1 w' b N1 N' (nTick A x).2 M ∧ NFr w w' N N' ∧ ∀ g, v.ownBlock = some g → N'.own g = 0 := by
  refine (tick_any h.net (h.nok hM) x).mono ?_
  rw [h.abs]
  rintro e w' ⟨v, N', h1, h2, h3, h4, h5, h6⟩
  exact ⟨v, h1, h2, N', ⟨h3, h.fr.trans h4, h5, h.ok.tick x⟩, h4, h6⟩
theorem absN_setCk (N : NS) (g : Nat) : absN (setCk N g) = absN N := rfl
theorem St.now {w1 w : World} {b : Nat} {N1 N : NS} {A : NA} {M : Int} (h : St w1 w b N1 N A M) :
    Calls Try.prog 26 #[.pointer (some ⟨b, 0, none⟩)] w fun e w' => e = .returned (.int .i64 A.clk) ∧ ∃ N', St w1 w' b N1 N' A M ∧ NFr w w' N N' := by
  refine (Now_any h.net).mono ?_
  rintro e w' ⟨rfl, g, h1, h2⟩
  refine ⟨?_, _, ⟨h1, h.fr.trans h2, h.abs, h.ok⟩, h2⟩
  rw [← h.abs]
  rfl
theorem NFr.rowk {w w' : World} {N N' : NS} (h : NFr w w' N N') {base size n : Nat} {e : TypeId} {v : Value} {xs : List Value} (hr : w.ownsRow base e size v n xs) (h0 : ∀ g, v.ownBlock = some g → N.own g = 0) : w'.ownsRow base e size v n xs ∧ ∀ g, v.ownBlock = some g → N'.own g = 0 :=
  ⟨ownsRow_heap hr (fun x hx => h.block x (hr.lt x hx).2 (h0 x hx)), fun x hx => h.own x (hr.lt x hx).2 (h0 x hx)⟩
set_option maxRecDepth 100000 in
set_option maxHeartbeats 16000000 in
/-- alive -/
theorem alive_any (w : World) : Calls Try.prog 10 #[] w fun e w' => e = .returned (.bool true) ∧ Below w.heap.size w w' := by
  go_enter Try.func10, Try.ntmps10
  go_wp2_with fail
  refine Calls.mono (New_ok 2 (by decide) (by decide)) ?_
  rintro e w1 ⟨rfl, hn, hb1⟩
  obtain ⟨b, hb⟩ : ∃ b, b = w.heap.size := ⟨_, rfl⟩
  have h1 := St.new (w := w) 2 hn
  rw [← hb] at h1 ⊢
  obtain ⟨N1, hN1⟩ : ∃ N1, N1 = newN b 2 := ⟨_, rfl⟩
  rw [← hN1] at h1
  have HB : Hid (Below w.heap.size w w1 ∧ b = w.heap.size ∧ N1 = newN b 2) := ⟨hb1, hb, hN1⟩
  have H1 : Hid (St w1 w1 b N1 N1 (A0 2) 0) := h1
  clear hn hb1 h1 hb hN1
  go_wp2_with fail
  refine Calls.mono (H1.out.set (by decide) 0 7 5) ?_
  rw [al1]
  rintro e w2 ⟨rfl, N2, h2, f2⟩
  have H2 : Hid (St w1 w2 b N1 N2 { A0 2 with tm := [⟨0, 7, 5⟩] } 0) := h2
  clear h2 f2 H1
  go_wp2_with fail
  refine Calls.mono (H2.out.tick (by decide) 3) ?_
  rw [al2]
  rintro e w3 ⟨v3, rfl, r3, N3, h3, f3, _⟩
  have H3 : Hid (St w1 w3 b N1 N3 { A0 2 with clk := 3, tm := [⟨0, 7, 5⟩] } 0) := h3
  obtain ⟨a3, c3, rfl⟩ := row_form r3
  clear h3 f3 r3 H2
  go_wp2_with fail
  refine Calls.mono (H3.out.tick (by decide) 3) ?_
  rw [al3]
  rintro e w4 ⟨v4, rfl, r4, N4, h4, f4, o4⟩
  have H4 : Hid (St w1 w4 b N1 N4 { A0 2 with clk := 5 } 0 ∧ w4.ownsRow w3.heap.size 63 3 v4 1 (tmL [⟨0, 7, 5⟩]) ∧ (∀ g, v4.ownBlock = some g → N4.own g = 0)) := ⟨h4, r4, o4⟩
  obtain ⟨g4, c4, rfl⟩ : ∃ g c, v4 = .slice (some ⟨g, 0, none⟩) 1 c := by
    rcases r4.2 with ⟨_, h0⟩ | ⟨g, cap, cur, e, _⟩
    · cases h0
    · exact ⟨g, cap, e⟩
  clear h4 f4 r4 o4 H3
  have hcv := run_convert_bytes_const_at (P := Try.prog) w4 30 5 #[.int .u8 120] 1 1 w4.heap.size rfl Try.underlying30 Try.underlying5
  go_wp2_with fail
  obtain ⟨w5, hw5⟩ : ∃ w5, w5 = w4.alloc (.cells #[.int .u8 120] 5 (1, 2)) := ⟨_, rfl⟩
  obtain ⟨x5, hx5⟩ : ∃ x5, x5 = w4.heap.size := ⟨_, rfl⟩
  have hb5 : Below w4.heap.size w4 w5 := by rw [hw5]; exact (Below.refl _ w4).alloc (Nat.le_refl _) _
  have hv5 : BytesV w5 (.slice (some ⟨x5, 0, none⟩) 1 1) [120] := by
    refine Or.inr ⟨⟨x5, 0, none⟩, 1, rfl, fun j u hu => ?_⟩
    rw [Addr.add_lit, Nat.zero_add, hw5, hx5, cell_of_block (heap_alloc_new w4 _)]
    simpa [vB] using hu
  have k5 := (NFr.below (L := N4) hb5).rowk H4.out.2.1 H4.out.2.2
  have H5 : Hid (St w1 w5 b N1 N4 { A0 2 with clk := 5 } 0 ∧ w5.ownsRow w3.heap.size 63 3 (.slice (some ⟨g4, 0, none⟩) 1 c4) 1 (tmL [⟨0, 7, 5⟩]) ∧ (∀ g, (Value.slice (some ⟨g4, 0, none⟩) 1 c4).ownBlock = some g → N4.own g = 0)) := ⟨H4.out.1.below hb5, k5.1, k5.2⟩
  rw [← hw5, ← hx5]
  have HV : Hid (BytesV w5 (.slice (some ⟨x5, 0, none⟩) 1 1) [120]) := hv5
  clear hw5 hx5 hb5 hv5 k5 H4
  refine Calls.mono (H5.out.1.send (by decide) 0 1 _ _ HV.out) ?_
  rw [al4]
  rintro e w6 ⟨rfl, N6, h6, f6⟩
  have k6 := f6.rowk H5.out.2.1 H5.out.2.2
  have H6 : Hid (St w1 w6 b N1 N6 { A0 2 with next := 1, clk := 5, fl := [(0, 0, 1, [120])] } 1 ∧ w6.ownsRow w3.heap.size 63 3 (.slice (some ⟨g4, 0, none⟩) 1 c4) 1 (tmL [⟨0, 7, 5⟩]) ∧ (∀ g, (Value.slice (some ⟨g4, 0, none⟩) 1 c4).ownBlock = some g → N6.own g = 0)) := ⟨h6, k6.1, k6.2⟩
  clear h6 f6 k6 H5 HV
  go_wp2_with fail
  refine Calls.mono (H6.out.1.take (by decide) 0) ?_
  rw [al5]
  rintro e w7 ⟨q, rfl, hq, hd, N7, h7, f7, d7⟩
  have k7 := f7.rowk H6.out.2.1 H6.out.2.2
  obtain ⟨qi, qf, qt, qd, qb⟩ := q
  simp only [pkA, Prod.mk.injEq] at hq
  obtain ⟨rfl, rfl, rfl, rfl⟩ := hq
  have H7 : Hid (St w1 w7 b N1 N7 { A0 2 with next := 1, clk := 5 } 1 ∧ w7.ownsRow w3.heap.size 63 3 (.slice (some ⟨g4, 0, none⟩) 1 c4) 1 (tmL [⟨0, 7, 5⟩]) ∧ (∀ g, (Value.slice (some ⟨g4, 0, none⟩) 1 c4).ownBlock = some g → N7.own g = 0) ∧ BytesV w7 qd [120] ∧ (∀ g, dBlock qd 1 = some g → N7.own g = 0)) := ⟨h7, k7.1, k7.2, hd, d7⟩
  simp only at hd d7 ⊢
  obtain ⟨qa, qc, rfl⟩ := hd.form
  clear h7 f7 k7 hd d7 H6
  have ht1 : w7.cell? ⟨g4, 1, none⟩ = some (.int .i64 7) := by
    have h1 := H7.out.2.1.cells (g := g4) rfl 1 (.int .i64 7) rfl
    rw [Addr.add_lit] at h1
    exact h1
  have hg4 : g4 < w7.heap.size := cell_lt ht1
  have hb7 : Below w7.heap.size w7 (w7.alloc (.cells #[.int .i64 0, .int .i64 0, .int .i64 1, .slice qa 1 qc] 35)) := (Below.refl _ w7).alloc (Nat.le_refl _) _
  have H8 : Hid (St w1 (w7.alloc (.cells #[.int .i64 0, .int .i64 0, .int .i64 1, .slice qa 1 qc] 35)) b N1 N7 { A0 2 with next := 1, clk := 5 } 1 ∧ BytesV (w7.alloc (.cells #[.int .i64 0, .int .i64 0, .int .i64 1, .slice qa 1 qc] 35)) (.slice qa 1 qc) [120] ∧ (∀ g, dBlock (.slice qa 1 qc) 1 = some g → N7.own g = 0) ∧ N7.own w7.heap.size = 0 ∧ (w7.alloc (.cells #[.int .i64 0, .int .i64 0, .int .i64 1, .slice qa 1 qc] 35)).heap[w7.heap.size]? = some (.cells #[.int .i64 0, .int .i64 0, .int .i64 1, .slice qa 1 qc] 35)) := ⟨H7.out.1.below hb7, H7.out.2.2.2.1.below hb7, H7.out.2.2.2.2, H7.out.1.net.fresh _ (Nat.le_refl _), heap_alloc_new _ _⟩
  clear hb7 H7 hcv
  go_wp2_with (first
    | (go_at_call 26
       refine Calls.mono H8.out.1.now ?_
       rintro e w9 ⟨rfl, N9, h9, f9⟩
       have hs9 : w9.heap[w7.heap.size]? = some (.cells #[.int .i64 0, .int .i64 0, .int .i64 1, .slice qa 1 qc] 35) := (f9.block _ (by simp) H8.out.2.2.2.1).trans H8.out.2.2.2.2
       obtain ⟨k0, k1, k2, k3, _⟩ := cells4 hs9
       have hq9 := conv_b (f9.bytes H8.out.2.1 H8.out.2.2.1).1
       have H9 : Hid (NFr w1 w9 N1 N9) := h9.fr
       clear h9 f9 hs9 H8))
  have hstr : ((strOfNums [120]).toList == [120]) = true := by kernel_rfl
  rw [hstr]
  go_ret
  exact ⟨rfl, NFr.outer HB.out.1 (fun g hg => by rw [HB.out.2.2]; exact newN_own (by rw [HB.out.2.1]; exact hg)) H9.out⟩
end Go.Proofs.Ytemapnfbmhjlbaa
