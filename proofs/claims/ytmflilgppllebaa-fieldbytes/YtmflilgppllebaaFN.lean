/- The document's numbers: calls by what they give; conclaveref04.P, L, mod. -/
import Derived.Test.YtmflilgppllebaaFR
import Derived.Test.YtmflilgppllebaaQ1
namespace Go.Proofs.Ytmflilgppllebaa
open Go.RowKit
set_option linter.unusedSimpArgs false
set_option linter.unusedVariables false
set_option maxRecDepth 20000

/-- A number that lies in memory. -/
def Num (w : World) (v : Value) (L : Nat) (x : Int) : Prop := ∃ d, IsN w v d ∧ Byt d ∧ d.length ≤ L ∧ valB d = x
theorem Num.below {w w' : World} {v : Value} {L : Nat} {x : Int} (h : Num w v L x) (hb : Below w.heap.size w w') : Num w' v L x := by
  obtain ⟨d, h1, h2, h3, h4⟩ := h; exact ⟨d, h1.below hb, h2, h3, h4⟩
theorem Num.le {w : World} {v : Value} {L M : Nat} {x : Int} (h : Num w v L x) (hl : L ≤ M) : Num w v M x := by
  obtain ⟨d, h1, h2, h3, h4⟩ := h; exact ⟨d, h1, h2, by omega, h4⟩
theorem n_of {va : Value} {x : Int} (ha : IsW va x) (w : World) : Calls Try.prog 39 #[va] w fun e w' => ∃ v, e = .returned v ∧ Num w' v 32 x ∧ Below w.heap.size w w' := by
  obtain ⟨a0, a1, a2, a3, rfl, la, rfl⟩ := ha
  refine (of_ref a0 a1 a2 a3 la w).mono ?_
  rintro e w' ⟨v, d, rfl, h1, h2, h3, h4, h5⟩
  exact ⟨v, rfl, ⟨d, h1, h2, h3, h4.out⟩, h5⟩
theorem n_plus (w : World) (va vb : Value) (La Lb : Nat) (x y : Int) (ha : Num w va La x) (hb : Num w vb Lb y) (la : La < 400) (lb : Lb < 400) :
    Calls Try.prog 38 #[va, vb] w fun e w' => ∃ v, e = .returned v ∧ Num w' v (max La Lb + 1) (x + y) ∧ Below w.heap.size w w' := by
  obtain ⟨a, a1, a2, a3, a4⟩ := ha
  obtain ⟨b, b1, b2, b3, b4⟩ := hb
  refine (plus_any w va vb a b a1 b1 (by omega) (by omega) a2 b2).mono ?_
  rintro e w' ⟨v, d, rfl, h1, h2, h3, h4, h5⟩
  exact ⟨v, rfl, ⟨d, h1, h2, by omega, by rw [h4.out, a4, b4]⟩, h5⟩
theorem n_times (w : World) (va vb : Value) (La Lb : Nat) (x y : Int) (ha : Num w va La x) (hb : Num w vb Lb y) (la : La < 400) (lb : Lb < 400) :
    Calls Try.prog 42 #[va, vb] w fun e w' => ∃ v, e = .returned v ∧ Num w' v (La + Lb + 1) (x * y) ∧ Below w.heap.size w w' := by
  obtain ⟨a, a1, a2, a3, a4⟩ := ha
  obtain ⟨b, b1, b2, b3, b4⟩ := hb
  refine (times_any w va vb a b a1 b1 (by omega) (by omega) a2 b2).mono ?_
  rintro e w' ⟨v, d, rfl, h1, h2, h3, h4, h5⟩
  exact ⟨v, rfl, ⟨d, h1, h2, by omega, by rw [h4.out, a4, b4]⟩, h5⟩
theorem valB_pos_len {d : List Int} (h : 0 < valB d) : 0 < d.length := by
  cases d with
  | nil => simp [valB] at h
  | cons x r => simp
theorem n_less (w : World) (va vb : Value) (La Lb : Nat) (x y : Int) (ha : Num w va La x) (hb : Num w vb Lb y) (la : La < 400) (lb : Lb < 400) (h0 : 0 < x) (hle : y ≤ x) :
    Calls Try.prog 43 #[va, vb] w fun e w' => ∃ v, e = .returned v ∧ Num w' v La (x - y) ∧ Below w.heap.size w w' := by
  obtain ⟨a, a1, a2, a3, rfl⟩ := ha
  obtain ⟨b, b1, b2, b3, rfl⟩ := hb
  refine (less_any w va vb a b a1 b1 (valB_pos_len h0) (by omega) (by omega) a2 b2 hle).mono ?_
  rintro e w' ⟨v, d, rfl, h1, h2, h3, h4, h5⟩
  exact ⟨v, rfl, ⟨d, h1, h2, by omega, h4.out⟩, h5⟩
theorem n_power (n : Nat) (hn : n < 2000) (w : World) :
    Calls Try.prog 71 #[.int .i64 n] w fun e w' => ∃ v, e = .returned v ∧ Num w' v (n / 8 + 1) (2 ^ n) ∧ Below w.heap.size w w' := by
  refine (power_any n hn w).mono ?_
  rintro e w' ⟨v, d, rfl, h1, h2, h3, h4, h5⟩
  exact ⟨v, rfl, ⟨d, h1, h2, by omega, h4.out⟩, h5⟩
theorem n_word (w : World) (v : Value) (L : Nat) (x : Int) (h : Num w v L x) (l : L < 400) : Calls Try.prog 51 #[v] w fun e w' => ∃ u, e = .returned u ∧ IsW u (x % T256) ∧ Below w.heap.size w w' := by
  obtain ⟨d, h1, h2, h3, rfl⟩ := h
  refine (wordref_any w v d h1 (by omega) h2).mono ?_
  rintro e w' ⟨r0, r1, r2, r3, rfl, hL, hN, hb⟩
  exact ⟨_, rfl, ⟨r0, r1, r2, r3, rfl, hL, hN.out⟩, hb⟩
theorem n_quo (w : World) (va vb : Value) (La Lb : Nat) (x y : Int) (ha : Num w va La x) (hb : Num w vb Lb y) (la : La < 400) (lb : Lb < 400) (h0 : 0 < y) :
    Calls Try.prog 59 #[va, vb] w fun e w' => ∃ vq vr, e = .returned (.tuple #[vq, vr]) ∧ Num w' vq La (x / y) ∧ Num w' vr (Lb + 1) (x % y) ∧ Below w.heap.size w w' := by
  obtain ⟨a, a1, a2, a3, rfl⟩ := ha
  obtain ⟨b, b1, b2, b3, rfl⟩ := hb
  refine (quo_any w va vb a b a1 b1 (by omega) (by omega) a2 b2 h0).mono ?_
  rintro e w' ⟨vq, vr, q, r, rfl, h1, h2, h3, h4, h5, h6, h7, h8⟩
  exact ⟨vq, vr, rfl, ⟨q, h1, h3, by omega, h7.out.1⟩, ⟨r, h2, h4, by omega, h7.out.2⟩, h8⟩
set_option maxHeartbeats 1000000 in
/-- conclaveref04.mod -/
theorem n_mod (w : World) (va vb : Value) (La Lb : Nat) (x y : Int) (ha : Num w va La x) (hb : Num w vb Lb y) (la : La < 400) (lb : Lb < 300) (h0 : 0 < y) (hy : y < T256) :
    Calls Try.prog 37 #[va, vb] w fun e w' => ∃ u, e = .returned u ∧ IsW u (x % y) ∧ Below w.heap.size w w' := by
  have hA : (w.alloc (.cells (C4 0 0 0 0) 24)).heap[w.heap.size]? = some (.cells (C4 0 0 0 0) 24 (0, 0)) := heap_alloc_new _ _
  have bA : Below w.heap.size w (w.alloc (.cells (C4 0 0 0 0) 24)) := by go_grown
  have bA2 : Below w.heap.size w (w.alloc (.cells (C4 0 0 0 0) 24)) := bA
  have HA : Hid (_ ∧ _) := ⟨hA, bA⟩
  have HQ : Hid _ := n_quo (w.alloc (.cells (C4 0 0 0 0) 24)) va vb La Lb x y (ha.below bA2) (hb.below bA2) la (by omega) h0
  clear hA bA bA2 ha hb
  go_enter Try.func37, Try.ntmps37
  go_wp2_with fail
  refine Calls.mono HQ.out ?_
  rintro e w1 ⟨vq, vr, rfl, h1, h2, b1⟩
  have HW : Hid _ := n_word w1 vr (Lb + 1) (x % y) h2 (by omega)
  clear h1 h2 HQ
  go_wp2_with fail
  refine Calls.mono HW.out ?_
  rintro e w2 ⟨u, rfl, h3, b2⟩
  have k1 := b1.trans (b2.mono b1.size)
  have hh := kept HA.out.1 k1
  have hB : Below w.heap.size w w2 := HA.out.2.trans (k1.mono HA.out.2.size)
  have h4 : (x % y) % T256 = x % y := Int.emod_eq_of_lt (Int.emod_nonneg _ (by omega)) (by have := Int.emod_lt_of_pos x h0; omega)
  rw [h4] at h3
  have H3 : Hid _ := h3
  clear h3 k1 b1 b2 HW HA h4
  obtain ⟨s0, s1, s2, s3, rfl, hL, hN⟩ := H3.out
  go_wp2_with (first | (refine wpList_store_row rfl 24 _ _ rfl w.heap.size (C4 s0 s1 s2 s3) rfl rfl 24 _ hh (info24c _ _ _ _) rfl (fone4 _ _ _ _) ?_))
  exact bodyPost_ret (results_cell_row rfl _ _ _ _ _ _ _ rfl (setRow_heap _ _ _ _ _ _ hh) Try.underlying24 rfl (info24c _ _ _ _)) rfl ⟨_, rfl, ⟨s0, s1, s2, s3, rfl, hL, hN⟩, below_setRow hB (Nat.le_refl _) _⟩
end Go.Proofs.Ytmflilgppllebaa
