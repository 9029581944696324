/- disk: does, Read. -/
import Derived.Test.YtllkpnlgemjgfaaCG
namespace Go.Proofs.Ytllkpnlgemjgfaa
open Go.RowKit Go.Maps Go.Joins
set_option linter.unusedSimpArgs false
set_option linter.unusedVariables false
set_option maxRecDepth 100000 in
set_option maxHeartbeats 8000000 in
theorem does6 {w : World} {bd br : Nat} {S : DS} {R : RS} {ro : Int} (h : Two w bd br S R ro) (hst : S.steps < 4611686018427387903) (hrn : R.n < 4611686018427387903) (x : Int) (s t : ByteArray) (hs : s.size ≤ 9223372036854775807) (ht : t.size ≤ 9223372036854775807) (va : Option Addr) (vc : Nat) (bs : List Int) (hv : BytesV w (.slice va bs.length vc) bs) (hv1 : ∀ b, dBlock (.slice va bs.length vc) bs = some b → b < w.heap.size ∧ S.role b = .none ∧ R.own b = 0) (hb63 : bs.length ≤ 4611686018427387904) (y : Int) (kv pv : Value) (hw : Wf (absP S) ro) :
    Calls Try.prog 9 #[.pointer (some ⟨bd, 0, none⟩), .pointer (some ⟨br, 0, none⟩), .agg (opC 6 x s t (.slice va bs.length vc) y kv pv)] w fun e w' => e = .returned (.bool true) ∧ ∃ S' R', Two w' bd br S' R' ro ∧ F2 w w' S R S' R' ∧ absP S' = absP S ∧ S'.steps ≤ S.steps + 1 ∧ R'.n ≤ R.n + 1 := by
  have hbd := h.disk.lt
  have hbr := h.ref.lt
  have H0 : Hid (Two (w.alloc (.cells (opC 6 x s t (.slice va bs.length vc) y kv pv) 35)) bd br S R ro ∧ F2 w (w.alloc (.cells (opC 6 x s t (.slice va bs.length vc) y kv pv) 35)) S R S R ∧ (w.alloc (.cells (opC 6 x s t (.slice va bs.length vc) y kv pv) 35)).heap[w.heap.size]? = some (.cells (opC 6 x s t (.slice va bs.length vc) y kv pv) 35) ∧ BytesV (w.alloc (.cells (opC 6 x s t (.slice va bs.length vc) y kv pv) 35)) (.slice va bs.length vc) bs) := ⟨h.below (by go_grown), F2.below (by go_grown), heap_alloc_new _ _, hv.below (by go_grown)⟩
  have HB : Hid (S.role w.heap.size = .none ∧ R.own w.heap.size = 0 ∧ (w.alloc (.cells (opC 6 x s t (.slice va bs.length vc) y kv pv) 35)).heap.size = w.heap.size + 1) := ⟨h.disk.fresh _ (Nat.le_refl _), h.ref.fresh _ (Nat.le_refl _), by simp⟩
  have HV : Hid (∀ b, dBlock (.slice va bs.length vc) bs = some b → b < w.heap.size ∧ S.role b = .none ∧ R.own b = 0) := hv1
  have HH : Hid (S.steps < 4611686018427387903 ∧ R.n < 4611686018427387903 ∧ Wf (absP S) ro) := ⟨hst, hrn, hw⟩
  clear h hv hv1 hst hrn hw
  have k0 : (w.alloc (.cells (opC 6 x s t (.slice va bs.length vc) y kv pv) 35)).cell? ⟨w.heap.size, 0, none⟩ = some (.int .i64 6) := by rw [cell_of_block H0.out.2.2.1]; rfl
  go_enter Try.func9, Try.ntmps9
  have x2 : (w.alloc (.cells (opC 6 x s t (.slice va bs.length vc) y kv pv) 35)).cell? ⟨w.heap.size, 2, none⟩ = some (.string s) := by rw [cell_of_block H0.out.2.2.1]; rfl
  unfold opC
  go_wp2_with fail
  rw [show #[Value.int .i64 6, .int .i64 x, .string s, .string t, .slice va bs.length vc, .int .u8 y, kv, pv] = opC 6 x s t (.slice va bs.length vc) y kv pv from rfl]
  generalize w.alloc (.cells (opC 6 x s t (.slice va bs.length vc) y kv pv) 35) = w0 at H0 HB k0 x2 ⊢
  clear k0
  have hr0 := p_read H0.out.1.disk H0.out.1.pb s hs
  go_wp2_with (first
    | (go_at_call 19
       refine Calls.mono hr0 ?_
       clear hr0
       rintro e w2 ⟨v1, bs1, rfl, ho1, hb1, hvb, S', hD, hF, hPS⟩
       have hM := H0.out.1.first hD hF
       have hH2 : w2.heap[w.heap.size]? = some (.cells (opC 6 x s t (.slice va bs.length vc) y kv pv) 35) := (hF.block w.heap.size (by have := HB.out.2.2; omega) HB.out.1).trans H0.out.2.2.1
       have y2 : w2.cell? ⟨w.heap.size, 2, none⟩ = some (.string s) := by rw [cell_of_block hH2]; rfl
       have hvo : ∀ b, v1.ownBlock = some b → R.own b = 0 := fun b hb => H0.out.1.ref.fresh b (hvb b hb).1
       have H1 : Hid (Mid w0 w2 bd br S S' R ∧ PS S S' (nameB s) (absP S) ∧ w2.ownsRow 0 5 1 v1 bs1.length (vB bs1) ∧ bs1 = (match fT (absP S) (nb s) with | some p => if nameB s then p.2.1 else [] | none => []) ∧ ∀ b, v1.ownBlock = some b → R.own b = 0) := ⟨hM, hPS, ho1, hb1, hvo⟩
       clear hD hF hPS hM ho1 hb1 hvb hvo hH2))
  have hr := r_read H1.out.1.ref H0.out.1.rb s hs
  rw [← H0.out.1.same] at hr
  refine Calls.mono hr ?_
  clear hr
  rintro e w3 ⟨v2, bs2, rfl, ho2, hb2, R', hR, hRF, hRPS⟩
  obtain ⟨q1, q2, q3⟩ := H1.out.1.second hR hRF
  have hbb : bs2 = bs1 := by
    rw [hb2]
    refine Eq.trans ?_ H1.out.2.2.2.1.symm
    cases fT (absP S) (nb s) <;> rfl
  subst hbb
  have ho1' : w3.ownsRow 0 5 1 v1 bs2.length (vB bs2) := ownsRow_heap H1.out.2.2.1 (fun b hb => hRF.block b (H1.out.2.2.1.lt b hb).2 (H1.out.2.2.2.2 b hb))
  have H3 : Hid (Two w3 bd br S' R' ro ∧ F2 w w3 S R S' R' ∧ PS S S' (nameB s) (absP S) ∧ RPS R R' (nameB s) (absP S) ∧ w3.ownsRow 0 5 1 v1 bs2.length (vB bs2) ∧ w3.ownsRow 0 5 1 v2 bs2.length (vB bs2)) := ⟨H0.out.1.next q1 hR q2 H1.out.2.1 hRPS HH.out.2.2 HH.out.1 HH.out.2.1, H0.out.2.1.trans q3, H1.out.2.1, hRPS, ho1', ho2⟩
  clear hR hRF hRPS q1 q2 q3 ho1' ho2 hb2
  go_wp2_with (first
    | (go_at_call 20
       refine Calls.mono (same_any H3.out.2.2.2.2.1 H3.out.2.2.2.2.2) ?_
       rintro e w4 ⟨rfl, hw4⟩
       subst hw4))
  go_ret
  refine ⟨rfl, S', R', H3.out.1, H3.out.2.1, H3.out.2.2.1.abs, ?_, ?_⟩
  · rw [H3.out.2.2.1.steps]
    split <;> omega
  · rw [H3.out.2.2.2.1.n]
    split <;> omega
end Go.Proofs.Ytllkpnlgemjgfaa
