/- Reading: field.readBelow, Read, Lread. -/
import Derived.Test.YtmflilgppllebaaFZ
import Derived.Test.YtmflilgppllebaaFS
import Derived.Test.YtmflilgppllebaaO1
namespace Go.Proofs.Ytmflilgppllebaa
open Go.RowKit
set_option linter.unusedSimpArgs false
set_option linter.unusedVariables false
/-- The error and the number that reading bytes below p gives. -/
def rdE (p : Int) (d : List Int) : Int := if d.length = 32 then (if p ≤ valB d then 20 else 0) else 1
def rdV (p : Int) (d : List Int) : Int := if d.length = 32 then (if p ≤ valB d then 0 else valB d) else 0
theorem g_cmp {va vb : Value} {x y : Int} (ha : IsW va x) (hb : IsW vb y) (w : World) : Calls Try.prog 77 #[va, vb] w fun e w' => e = .returned (.int .i64 (cmpN x y)) ∧ Below w.heap.size w w' := by
  obtain ⟨a0, a1, a2, a3, rfl, la, rfl⟩ := ha
  obtain ⟨b0, b1, b2, b3, rfl, lb, rfl⟩ := hb
  exact cmp_any a0 a1 a2 a3 b0 b1 b2 b3 la lb w
theorem g_number {w : World} {v : Value} {d : List Int} (h : IsD w v d) (l : d.length ≤ 32) (B : Byt d) : Calls Try.prog 62 #[v] w fun e w' => ∃ u, e = .returned u ∧ IsW u (valB d) ∧ Below w.heap.size w w' := by
  refine (number_any w v d h l B).mono ?_
  rintro e w' ⟨r0, r1, r2, r3, rfl, hL, hN, hb⟩
  exact ⟨_, rfl, ⟨_, _, _, _, rfl, hL, hN.out⟩, hb⟩
set_option maxHeartbeats 2000000 in
/-- field.readBelow -/
theorem rb_any {vp : Value} {p : Int} (hp : IsW vp p) (w : World) (v : Value) (d : List Int) (h : IsD w v d) (B : Byt d) (hm : d.length ≤ 9223372036854775807) :
    Calls Try.prog 60 #[vp, v] w fun e w' => ∃ u, e = .returned (.tuple #[u, .int .i64 (rdE p d)]) ∧ IsW u (rdV p d) ∧ Below w.heap.size w w' := by
  have HP : Hid (IsW vp p) := hp
  have HD : Hid (IsD w v d) := h
  have HB : Hid (Byt d) := B
  obtain ⟨p0, p1, p2, p3, rfl, lp, np⟩ := hp
  obtain ⟨aa, ca, rfl, hca, hc⟩ := h
  have V0 : Hid (VarW ((w.alloc (.cells (C4 p0 p1 p2 p3) 24)).alloc (.cells (C4 0 0 0 0) 24)) w.heap.size (W4 p0 p1 p2 p3) ∧ VarW ((w.alloc (.cells (C4 p0 p1 p2 p3) 24)).alloc (.cells (C4 0 0 0 0) 24)) (w.heap.size + 1) (W4 0 0 0 0) ∧ Below w.heap.size w ((w.alloc (.cells (C4 p0 p1 p2 p3) 24)).alloc (.cells (C4 0 0 0 0) 24))) :=
    ⟨VarW.mk lp (heap_old _ _ _ _ (heap_alloc_new _ _)), ⟨⟨0, isw0⟩, heapAt _ _ _ (by simp)⟩, by go_grown⟩
  clear hc B np lp
  by_cases hl : d.length = 32
  · have HL : Hid (d.length = 32) := hl
    have HD2 : Hid (IsD w (.slice aa 32 ca) d) := by rw [← hl]; exact HD
    rw [hl]
    clear hca hm HD hl
    go_enter Try.func60, Try.ntmps60
    unfold W4
    go_wp2_with fail
    generalize (w.alloc (.cells (C4 p0 p1 p2 p3) 24)).alloc (.cells (C4 0 0 0 0) 24) = W0 at V0 ⊢
    refine Calls.mono (g_number (HD2.out.below V0.out.2.2) (by rw [HL.out]; exact Nat.le_refl _) HB.out) ?_
    rintro e w12 ⟨v12, rfl, h12, b12⟩
    have H12 : Hid (IsW v12 (valB d)) := h12
    have hn := VarW.new w12
    have hs : Hid (w.heap.size + 1 < w12.heap.size ∧ w.heap.size ≤ w12.heap.size) := by
      have := (V0.out.2.1.kept b12).lt
      exact ⟨by omega, by omega⟩
    have V1 : Hid (VarW ((w12.alloc (.cells (C4 0 0 0 0) 24)).setRow w12.heap.size (cw v12)) w.heap.size (W4 p0 p1 p2 p3) ∧ VarW ((w12.alloc (.cells (C4 0 0 0 0) 24)).setRow w12.heap.size (cw v12)) (w.heap.size + 1) (W4 0 0 0 0) ∧ VarW ((w12.alloc (.cells (C4 0 0 0 0) 24)).setRow w12.heap.size (cw v12)) w12.heap.size v12 ∧ Below w.heap.size w ((w12.alloc (.cells (C4 0 0 0 0) 24)).setRow w12.heap.size (cw v12))) :=
      ⟨((V0.out.1.kept b12).old _).other (by have := hs.out; omega) _, ((V0.out.2.1.kept b12).old _).other (by have := hs.out; omega) _, hn.put h12, below_setRow ((V0.out.2.2.trans (b12.mono V0.out.2.2.size)).alloc hs.out.2 _) hs.out.2 _⟩
    clear V0 b12
    go_wp2_with (first | (refine wpList_store_varW rfl _ _ rfl w12.heap.size rfl rfl h12 hn ?_) | (refine wpList_load_varW rfl _ rfl w12.heap.size rfl V1.out.2.2.1 ?_) | (refine wpList_load_varW rfl _ rfl w.heap.size rfl V1.out.1 ?_))
    clear hn h12
    generalize (w12.alloc (.cells (C4 0 0 0 0) 24)).setRow w12.heap.size (cw v12) = W1 at V1 ⊢
    generalize w12.heap.size = z at V1 hs ⊢
    refine Calls.mono (g_cmp H12.out HP.out _) ?_
    rintro e w15 ⟨rfl, b15⟩
    have V2 : Hid (VarW w15 (w.heap.size + 1) (W4 0 0 0 0) ∧ VarW w15 z v12 ∧ Below w.heap.size w w15) := ⟨V1.out.2.1.kept b15, V1.out.2.2.1.kept b15, V1.out.2.2.2.trans (b15.mono V1.out.2.2.2.size)⟩
    clear V1 b15
    by_cases hlt : p ≤ valB d
    · have HE : Hid (rdE p d = 20 ∧ rdV p d = 0) := by unfold rdE rdV; rw [if_pos HL.out, if_pos HL.out, if_pos hlt, if_pos hlt]; exact ⟨rfl, rfl⟩
      have hcm : 0 ≤ cmpN (valB d) p := by unfold cmpN; split; omega; split <;> omega
      generalize cmpN (valB d) p = cm at hcm ⊢
      go_wp2_with (first | (refine wpList_build rfl 24 _ rfl (by kernel_rfl) ?_; generalize hG : (Program.built _ _ _).getD #[] = G; obtain rfl : G = C4 0 0 0 0 := by rw [← hG]; kernel_rfl) | (refine wpList_store_varW rfl _ _ rfl (w.heap.size + 1) rfl rfl isw0 V2.out.1 ?_))
      try clear hG
      have hl := (V2.out.1.put isw0).load
      refine bodyPost_ret (v := .tuple #[W4 0 0 0 0, .int .i64 20]) (by simp [results, Try.results60, asAddr, hl]) rfl ⟨_, by rw [HE.out.1], by rw [HE.out.2]; exact isw0, below_setRow V2.out.2.2 (by omega) _⟩
    · have HE : Hid (rdE p d = 0 ∧ rdV p d = valB d) := by unfold rdE rdV; rw [if_pos HL.out, if_pos HL.out, if_neg hlt, if_neg hlt]; exact ⟨rfl, rfl⟩
      have hcm : cmpN (valB d) p = -1 := by unfold cmpN; rw [if_pos (by omega)]
      rw [hcm]
      go_wp2_with (first | (refine wpList_load_varW rfl _ rfl z rfl V2.out.2.1 ?_) | (refine wpList_store_varW rfl _ _ rfl (w.heap.size + 1) rfl rfl H12.out V2.out.1 ?_))
      have hl := (V2.out.1.put H12.out).load
      refine bodyPost_ret (v := .tuple #[v12, .int .i64 0]) (by simp [results, Try.results60, asAddr, hl]) rfl ⟨_, by rw [HE.out.1], by rw [HE.out.2]; exact H12.out, below_setRow V2.out.2.2 (by omega) _⟩
  · have HE : Hid (rdE p d = 1 ∧ rdV p d = 0) := by unfold rdE rdV; rw [if_neg hl, if_neg hl]; exact ⟨rfl, rfl⟩
    have hd : ((d.length : Int) = 32) = False := by simp; omega
    clear HD HB HP
    go_enter Try.func60, Try.ntmps60
    unfold W4
    go_wp2_with (first | (refine wpList_build rfl 24 _ rfl (by kernel_rfl) ?_; generalize hG : (Program.built _ _ _).getD #[] = G; obtain rfl : G = C4 0 0 0 0 := by rw [← hG]; kernel_rfl) | (refine wpList_store_varW rfl _ _ rfl (w.heap.size + 1) rfl rfl isw0 V0.out.2.1 ?_))
    have hl := (V0.out.2.1.put isw0).load
    refine bodyPost_ret (v := .tuple #[W4 0 0 0 0, .int .i64 1]) (by simp [results, Try.results60, asAddr, hl]) rfl ⟨_, by rw [HE.out.1], by rw [HE.out.2]; exact isw0, below_setRow V0.out.2.2 (by omega) _⟩
theorem rdV_bd {p : Int} {d : List Int} : 0 ≤ rdV p d ∨ True := Or.inr trivial
set_option maxHeartbeats 1000000 in
/-- field.Read -/
theorem read_any (w : World) (v : Value) (d : List Int) (h : IsD w v d) (B : Byt d) (hm : d.length ≤ 9223372036854775807) :
    Calls Try.prog 22 #[v] w fun e w' => ∃ u, e = .returned (.tuple #[u, .int .i64 (rdE PP d)]) ∧ IsW u (rdV PP d) ∧ Below w.heap.size w w' := by
  have HD : Hid (IsD w v d) := h
  have V0 : Hid (VarW (w.alloc (.cells (C4 0 0 0 0) 24)) w.heap.size (W4 0 0 0 0) ∧ Below w.heap.size w (w.alloc (.cells (C4 0 0 0 0) 24))) := ⟨VarW.new w, by go_grown⟩
  clear h
  go_enter Try.func22, Try.ntmps22
  go_wp2_with fail
  generalize w.alloc (.cells (C4 0 0 0 0) 24) = W0 at V0 ⊢
  refine Calls.mono (g_p _) ?_
  rintro e w1 ⟨v1, rfl, h1, b1⟩
  have V1 : Hid (VarW w1 w.heap.size (W4 0 0 0 0) ∧ Below w.heap.size w w1) := ⟨V0.out.1.kept b1, V0.out.2.trans (b1.mono V0.out.2.size)⟩
  clear V0 b1
  go_wp2_with fail
  refine Calls.mono (rb_any h1 _ v d (HD.out.below V1.out.2) B hm) ?_
  rintro e w2 ⟨u, rfl, hu, b2⟩
  have V2 : Hid (VarW w2 w.heap.size (W4 0 0 0 0) ∧ Below w.heap.size w w2) := ⟨V1.out.1.kept b2, V1.out.2.trans (b2.mono V1.out.2.size)⟩
  clear V1 b2
  go_wp2_with (first | (refine wpList_store_varW rfl _ _ rfl w.heap.size rfl rfl hu V2.out.1 ?_))
  have hl := (V2.out.1.put hu).load
  refine bodyPost_ret (v := .tuple #[u, .int .i64 (rdE PP d)]) (by simp [results, Try.results22, asAddr, hl]) rfl ⟨_, rfl, hu, below_setRow V2.out.2 (by omega) _⟩
end Go.Proofs.Ytmflilgppllebaa
