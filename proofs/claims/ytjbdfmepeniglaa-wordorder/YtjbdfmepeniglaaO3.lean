/- The walk over WordOrder: which of two words is more. -/
import Derived.Test.YtjbdfmepeniglaaA1
import Derived.Test.YtjbdfmepeniglaaR5
namespace Go.Proofs.Ytjbdfmepeniglaa
open Go.RowKit
set_option linter.unusedSimpArgs false
set_option linter.unusedVariables false
theorem isN_go {w w' : World} {v : Value} {d : List Int} (h : IsN w v d) (e : w'.heap = w.heap) : IsN w' v d := by
  obtain ⟨a, cap, rfl, hcap, h⟩ := h
  refine ⟨a, cap, rfl, hcap, fun h0 => ?_⟩
  obtain ⟨b, o, rfl, hlt, hc⟩ := h h0
  exact ⟨b, o, rfl, by rw [e]; exact hlt, fun k hk => by rw [← hc k hk]; unfold World.cell?; rw [e]⟩
theorem isN_on {w w1 w2 : World} {v : Value} {d : List Int} (h : IsN w v d) (e : w1.heap = w.heap) (hb : Below w1.heap.size w1 w2) : IsN w2 v d := (isN_go h e).below hb
/-- What is known of a list of digits that stands for a number. -/
def Stands (d : List Int) (n : Int) : Prop := Byt d ∧ d.length ≤ 32 ∧ valB d = n
theorem of_stands (a0 a1 a2 a3 : Int) (ha : L4 a0 a1 a2 a3) (w : World) : Calls Try.prog 56 #[W4 a0 a1 a2 a3] w fun e w' => ∃ (v : Value) (d : List Int), e = .returned v ∧ IsN w' v d ∧ Hid (Stands d (num a0 a1 a2 a3)) ∧ Below w.heap.size w w' :=
  (of_ref a0 a1 a2 a3 ha w).mono fun e w' ⟨v, d, he, hN, hB, hl, hV, hw⟩ => ⟨v, d, he, hN, ⟨hB, hl, hV.out⟩, hw⟩
theorem cmp_stands (w : World) (va vb : Value) (a b : List Int) (na nb z : Int) (hz : z = cmpN na nb) (ha : IsN w va a) (hb : IsN w vb b) (pa : Hid (Stands a na)) (pb : Hid (Stands b nb)) :
    Calls Try.prog 55 #[va, vb] w fun e w' => e = .returned (.int .i64 z) ∧ w' = w := by
  obtain ⟨Ba, la, ea⟩ := pa.out
  obtain ⟨Bb, lb, eb⟩ := pb.out
  rw [hz, ← ea, ← eb]
  exact cmpref_any w va vb a b ha hb (by omega) (by omega) Ba Bb
set_option maxHeartbeats 40000000 in
theorem order_walk (a0 a1 a2 a3 b0 b1 b2 b3 : Int) (ha : L4 a0 a1 a2 a3) (hb : L4 b0 b1 b2 b3) (w : World) :
    Calls Try.prog 7 #[W4 a0 a1 a2 a3, W4 b0 b1 b2 b3] w fun e w' => e = .returned (.bool true) ∧ Below w.heap.size w w' := by
  have q : ∀ w, (Op.equalIn 10000 24 (W4 a0 a1 a2 a3) (W4 0 0 0 0)).run Try.prog w = .ok (num a0 a1 a2 a3 == 0) w := fun w => by
    have := eq24_num ha (of_L4 limb0) w
    rw [of_num] at this
    exact this
  have H54 : Hid (∀ w, Calls Try.prog 54 #[W4 a0 a1 a2 a3, W4 b0 b1 b2 b3] w fun e w' => e = .returned (.int .i64 (cmpN (num a0 a1 a2 a3) (num b0 b1 b2 b3))) ∧ Below w.heap.size w w') := fun w => cmp_any a0 a1 a2 a3 b0 b1 b2 b3 ha hb w
  have H57 : Hid (∀ w, Calls Try.prog 57 #[W4 a0 a1 a2 a3, W4 b0 b1 b2 b3] w fun e w' => e = .returned (.int .i64 (cmpN ((num a0 a1 a2 a3 + T255) % T256) ((num b0 b1 b2 b3 + T255) % T256))) ∧ Below w.heap.size w w') := fun w => scmp_any a0 a1 a2 a3 b0 b1 b2 b3 ha hb w
  have H58 : Hid (∀ w, Calls Try.prog 58 #[W4 a0 a1 a2 a3, W4 b0 b1 b2 b3] w fun e w' => e = .returned (.int .i64 (cmpN ((num a0 a1 a2 a3 + T255) % T256) ((num b0 b1 b2 b3 + T255) % T256))) ∧ Below w.heap.size w w') := fun w => scmpref_any a0 a1 a2 a3 b0 b1 b2 b3 ha hb w
  have H59 : Hid (∀ w, Calls Try.prog 59 #[W4 a0 a1 a2 a3] w fun e w' => e = .returned (.bool (num a0 a1 a2 a3 == 0)) ∧ Below w.heap.size w w') := fun w => zero_any a0 a1 a2 a3 ha w
  have HOa : Hid (∀ w, Calls Try.prog 56 #[W4 a0 a1 a2 a3] w fun e w' => ∃ (v : Value) (d : List Int), e = .returned v ∧ IsN w' v d ∧ Hid (Stands d (num a0 a1 a2 a3)) ∧ Below w.heap.size w w') := fun w => of_stands a0 a1 a2 a3 ha w
  have HOb : Hid (∀ w, Calls Try.prog 56 #[W4 b0 b1 b2 b3] w fun e w' => ∃ (v : Value) (d : List Int), e = .returned v ∧ IsN w' v d ∧ Hid (Stands d (num b0 b1 b2 b3)) ∧ Below w.heap.size w w') := fun w => of_stands b0 b1 b2 b3 hb w
  have H55 : Hid (∀ (w : World) (va vb : Value) (a b : List Int), IsN w va a → IsN w vb b → Hid (Stands a (num a0 a1 a2 a3)) → Hid (Stands b (num b0 b1 b2 b3)) → Calls Try.prog 55 #[va, vb] w fun e w' => e = .returned (.int .i64 (cmpN (num a0 a1 a2 a3) (num b0 b1 b2 b3))) ∧ w' = w) := fun w va vb a b h1 h2 h3 h4 => cmp_stands w va vb a b _ _ _ rfl h1 h2 h3 h4
  generalize cmpN (num a0 a1 a2 a3) (num b0 b1 b2 b3) = z at *
  generalize cmpN ((num a0 a1 a2 a3 + T255) % T256) ((num b0 b1 b2 b3 + T255) % T256) = z' at *
  generalize (num a0 a1 a2 a3 == 0) = z0 at *
  clear ha hb
  unfold W4 at *
  go_enter Try.func7, Try.ntmps7
  go_wp2_with fail
  have s_ : Hid (w.heap.size + 1 < ((w.alloc (.cells #[.int .u64 a0, .int .u64 a1, .int .u64 a2, .int .u64 a3] 24)).alloc (.cells #[.int .u64 b0, .int .u64 b1, .int .u64 b2, .int .u64 b3] 24)).heap.size ∧ ((w.alloc (.cells #[.int .u64 a0, .int .u64 a1, .int .u64 a2, .int .u64 a3] 24)).alloc (.cells #[.int .u64 b0, .int .u64 b1, .int .u64 b2, .int .u64 b3] 24)).cell? ⟨w.heap.size, 0, none⟩ = some (.int .u64 a0) ∧ ((w.alloc (.cells #[.int .u64 a0, .int .u64 a1, .int .u64 a2, .int .u64 a3] 24)).alloc (.cells #[.int .u64 b0, .int .u64 b1, .int .u64 b2, .int .u64 b3] 24)).cell? ⟨w.heap.size, 1, none⟩ = some (.int .u64 a1) ∧ ((w.alloc (.cells #[.int .u64 a0, .int .u64 a1, .int .u64 a2, .int .u64 a3] 24)).alloc (.cells #[.int .u64 b0, .int .u64 b1, .int .u64 b2, .int .u64 b3] 24)).cell? ⟨w.heap.size, 2, none⟩ = some (.int .u64 a2) ∧ ((w.alloc (.cells #[.int .u64 a0, .int .u64 a1, .int .u64 a2, .int .u64 a3] 24)).alloc (.cells #[.int .u64 b0, .int .u64 b1, .int .u64 b2, .int .u64 b3] 24)).cell? ⟨w.heap.size, 3, none⟩ = some (.int .u64 a3) ∧ ((w.alloc (.cells #[.int .u64 a0, .int .u64 a1, .int .u64 a2, .int .u64 a3] 24)).alloc (.cells #[.int .u64 b0, .int .u64 b1, .int .u64 b2, .int .u64 b3] 24)).cell? ⟨w.heap.size + 1, 0, none⟩ = some (.int .u64 b0) ∧ ((w.alloc (.cells #[.int .u64 a0, .int .u64 a1, .int .u64 a2, .int .u64 a3] 24)).alloc (.cells #[.int .u64 b0, .int .u64 b1, .int .u64 b2, .int .u64 b3] 24)).cell? ⟨w.heap.size + 1, 1, none⟩ = some (.int .u64 b1) ∧ ((w.alloc (.cells #[.int .u64 a0, .int .u64 a1, .int .u64 a2, .int .u64 a3] 24)).alloc (.cells #[.int .u64 b0, .int .u64 b1, .int .u64 b2, .int .u64 b3] 24)).cell? ⟨w.heap.size + 1, 2, none⟩ = some (.int .u64 b2) ∧ ((w.alloc (.cells #[.int .u64 a0, .int .u64 a1, .int .u64 a2, .int .u64 a3] 24)).alloc (.cells #[.int .u64 b0, .int .u64 b1, .int .u64 b2, .int .u64 b3] 24)).cell? ⟨w.heap.size + 1, 3, none⟩ = some (.int .u64 b3)) := by
    refine ⟨by simp, ?_, ?_, ?_, ?_, ?_, ?_, ?_, ?_⟩ <;> simp [go_sem, World.cell?_alloc_past]
  have hB : Below w.heap.size w ((w.alloc (.cells #[.int .u64 a0, .int .u64 a1, .int .u64 a2, .int .u64 a3] 24)).alloc (.cells #[.int .u64 b0, .int .u64 b1, .int .u64 b2, .int .u64 b3] 24)) := by go_grown
  generalize ((w.alloc (.cells #[.int .u64 a0, .int .u64 a1, .int .u64 a2, .int .u64 a3] 24)).alloc (.cells #[.int .u64 b0, .int .u64 b1, .int .u64 b2, .int .u64 b3] 24)) = w0 at *
  have hs0 := hB.size
  go_region_held3 (fun w' => w.heap.size + 1 < w'.heap.size ∧ w'.cell? ⟨w.heap.size, 0, none⟩ = some (.int .u64 a0) ∧ w'.cell? ⟨w.heap.size, 1, none⟩ = some (.int .u64 a1) ∧ w'.cell? ⟨w.heap.size, 2, none⟩ = some (.int .u64 a2) ∧ w'.cell? ⟨w.heap.size, 3, none⟩ = some (.int .u64 a3) ∧ w'.cell? ⟨w.heap.size + 1, 0, none⟩ = some (.int .u64 b0) ∧ w'.cell? ⟨w.heap.size + 1, 1, none⟩ = some (.int .u64 b1) ∧ w'.cell? ⟨w.heap.size + 1, 2, none⟩ = some (.int .u64 b2) ∧ w'.cell? ⟨w.heap.size + 1, 3, none⟩ = some (.int .u64 b3)) ((refine keepO s_.out ?_; go_grown; done))
    (first
      | (go_at_call 54; go_must (refine Calls.mono (H54.out _) ?_; rintro e w2 ⟨rfl, hw2⟩; have hzs := s_.out.1; have hB : Below w.heap.size w w2 := Below.trans (by go_grown) (hw2.mono (by go_size)); have s_ : Hid _ := keepOs s_.out (by go_grown) hw2; have hs0 := hB.size; clear hw2 hzs))
      | (go_at_call_of 56 ([Value.agg #[Value.int .u64 a0, Value.int .u64 a1, Value.int .u64 a2, Value.int .u64 a3]]); go_must (refine Calls.mono (HOa.out _) ?_; rintro e w2 ⟨v1, d1, rfl, N1, P1, hw2⟩; have hzs := s_.out.1; have hB : Below w.heap.size w w2 := Below.trans (by go_grown) (hw2.mono (by go_size)); have s_ : Hid _ := keepOs s_.out (by go_grown) hw2; have hs0 := hB.size; have N1 : Hid _ := N1; clear hw2 hzs))
      | (go_at_call_of 56 ([Value.agg #[Value.int .u64 b0, Value.int .u64 b1, Value.int .u64 b2, Value.int .u64 b3]]); go_must (refine Calls.mono (HOb.out _) ?_; rintro e w2 ⟨v2, d2, rfl, N2, P2, hw2⟩; have hzs := s_.out.1; have hB : Below w.heap.size w w2 := Below.trans (by go_grown) (hw2.mono (by go_size)); have s_ : Hid _ := keepOs s_.out (by go_grown) hw2; have hs0 := hB.size; have N1 : Hid _ := isN_on N1.out (by rfl) hw2; have N2 : Hid _ := N2; clear hw2 hzs))
      | (go_at_call 55; go_must (refine Calls.mono (H55.out _ _ _ _ _ (isN_go N1.out (by rfl)) (isN_go N2.out (by rfl)) P1 P2) ?_; rintro e w2 ⟨rfl, rfl⟩))
      | (go_at_call 57; go_must (refine Calls.mono (H57.out _) ?_; rintro e w2 ⟨rfl, hw2⟩; have hzs := s_.out.1; have hB : Below w.heap.size w w2 := Below.trans (by go_grown) (hw2.mono (by go_size)); have s_ : Hid _ := keepOs s_.out (by go_grown) hw2; have hs0 := hB.size; clear hw2 hzs))
      | (go_at_call 58; go_must (refine Calls.mono (H58.out _) ?_; rintro e w2 ⟨rfl, hw2⟩; have hzs := s_.out.1; have hB : Below w.heap.size w w2 := Below.trans (by go_grown) (hw2.mono (by go_size)); have s_ : Hid _ := keepOs s_.out (by go_grown) hw2; have hs0 := hB.size; clear hw2 hzs))
      | (go_at_call 59; go_must (refine Calls.mono (H59.out _) ?_; rintro e w2 ⟨rfl, hw2⟩; have hzs := s_.out.1; have hB : Below w.heap.size w w2 := Below.trans (by go_grown) (hw2.mono (by go_size)); have s_ : Hid _ := keepOs s_.out (by go_grown) hw2; have hs0 := hB.size; clear hw2 hzs))
      | (go_at_call 17; go_must (refine Calls.mono (alive_any _) ?_; rintro e w2 ⟨rfl, hw2⟩; have hzs := s_.out.1; have hB : Below w.heap.size w w2 := Below.trans (by go_grown) (hw2.mono (by go_size)); have s_ : Hid _ := keepOs s_.out (by go_grown) hw2; have hs0 := hB.size; clear hw2 hzs)))
  go_wp2
  go_ret
  exact ⟨rfl, by go_grown⟩
end Go.Proofs.Ytjbdfmepeniglaa
