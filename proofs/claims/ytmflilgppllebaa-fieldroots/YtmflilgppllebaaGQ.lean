/- The document's field: Pow. -/
import Derived.Test.YtmflilgppllebaaGP
import Derived.Test.YtmflilgppllebaaFE
namespace Go.Proofs.Ytmflilgppllebaa
open Go.RowKit
set_option linter.unusedSimpArgs false
set_option linter.unusedVariables false
theorem one16 : (#[.int .i64 1, .int .i64 0, .int .i64 0, .int .i64 0, .int .i64 0, .int .i64 0, .int .i64 0, .int .i64 0, .int .i64 0, .int .i64 0, .int .i64 0, .int .i64 0, .int .i64 0, .int .i64 0, .int .i64 0, .int .i64 0] : Array Value) = vec 16 (gv fun j => if j = 0 then 1 else 0) := by kernel_rfl
/-- The worlds of Pow's loop: the exponent, the answer's place, the power, the number. -/
def PgIn (e0 e1 e2 e3 : Int) (fx fo : Nat → Int) (z : Nat) (w wr : World) : Prop :=
  wr.heap[w.heap.size + 1]? = some (.cells (C4 e0 e1 e2 e3) 24 (0, 0)) ∧ wr.heap[w.heap.size + 2]? = some (.cells (C4 0 0 0 0) 24 (0, 0)) ∧ wr.rowIs (w.heap.size + 3) 55 16 (gv fo) ∧ wr.rowIs z 55 16 (gv fx) ∧ w.heap.size + 3 < z ∧ Below w.heap.size w wr
theorem PgIn.more {e0 e1 e2 e3 : Int} {fx fo : Nat → Int} {z : Nat} {w u v : World} (h : PgIn e0 e1 e2 e3 fx fo z w u) (hb : Below u.heap.size u v) : PgIn e0 e1 e2 e3 fx fo z w v :=
  ⟨kept h.1 hb, kept h.2.1 hb, h.2.2.1.of_block (hb.block _ h.2.2.1.lt), h.2.2.2.1.of_block (hb.block _ h.2.2.2.1.lt), h.2.2.2.2.1, h.2.2.2.2.2.trans (hb.mono h.2.2.2.2.2.size)⟩
theorem PgIn.put {e0 e1 e2 e3 : Int} {fx fo : Nat → Int} {z : Nat} {w u : World} (h : PgIn e0 e1 e2 e3 fx fo z w u) (g : Nat → Int) : PgIn e0 e1 e2 e3 fx g z w (u.setRow (w.heap.size + 3) (vec 16 (gv g))) :=
  ⟨(setRow_other _ _ _ _ (by omega)).trans h.1, (setRow_other _ _ _ _ (by omega)).trans h.2.1, heap_row (setRow_heap _ _ _ _ _ _ (row_heap h.2.2.1)), h.2.2.2.1.of_block (setRow_other _ _ _ _ (by have := h.2.2.2.2.1; omega)), h.2.2.2.2.1, below_setRow' h.2.2.2.2.2 (by omega) _⟩
theorem pg_sq {B : Int} {v : Value} {A : Int} {n : Nat} (h : IsG B v (A ^ n * A ^ n)) : IsG B v (A ^ (2 * n)) := h.eq (by rw [Nat.two_mul, Int.pow_add])
set_option maxRecDepth 20000 in
set_option maxHeartbeats 4000000 in
/-- conclaveref04.Pow -/
theorem n_pow {va vb : Value} {x : Int} (E : Nat) (ha : IsW va x) (hb : IsW vb (E : Int)) : GivesW 16 #[va, vb] (x ^ E % PP) := fun w => by
  have HX : Hid (IsW va x) := ha
  have hEb := hb.bd
  obtain ⟨a0, a1, a2, a3, rfl, la, na⟩ := ha
  obtain ⟨e0, e1, e2, e3, rfl, le, ne⟩ := hb
  have HE : Hid (L4 e0 e1 e2 e3 ∧ num e0 e1 e2 e3 = (E : Int) ∧ E < 2 ^ 256) := ⟨le, ne, by have := two256; omega⟩
  have HW : Hid (((((w.alloc (.cells (C4 a0 a1 a2 a3) 24)).alloc (.cells (C4 e0 e1 e2 e3) 24)).alloc (.cells (C4 0 0 0 0) 24)).alloc (.cells (vec 16 (gv fun j => if j = 0 then 1 else 0)) 55)).heap[w.heap.size + 1]? = some (.cells (C4 e0 e1 e2 e3) 24 (0, 0)) ∧ ((((w.alloc (.cells (C4 a0 a1 a2 a3) 24)).alloc (.cells (C4 e0 e1 e2 e3) 24)).alloc (.cells (C4 0 0 0 0) 24)).alloc (.cells (vec 16 (gv fun j => if j = 0 then 1 else 0)) 55)).heap[w.heap.size + 2]? = some (.cells (C4 0 0 0 0) 24 (0, 0)) ∧ ((((w.alloc (.cells (C4 a0 a1 a2 a3) 24)).alloc (.cells (C4 e0 e1 e2 e3) 24)).alloc (.cells (C4 0 0 0 0) 24)).alloc (.cells (vec 16 (gv fun j => if j = 0 then 1 else 0)) 55)).rowIs (w.heap.size + 3) 55 16 (gv fun j => if j = 0 then 1 else 0) ∧ Below w.heap.size w ((((w.alloc (.cells (C4 a0 a1 a2 a3) 24)).alloc (.cells (C4 e0 e1 e2 e3) 24)).alloc (.cells (C4 0 0 0 0) 24)).alloc (.cells (vec 16 (gv fun j => if j = 0 then 1 else 0)) 55))) :=
    ⟨heap_old _ _ _ _ (heap_old _ _ _ _ (heapAt _ _ _ (by simp))), heap_old _ _ _ _ (heapAt _ _ _ (by simp)), heap_row (heapAt _ _ _ (by simp)), by go_grown⟩
  clear la na le ne hEb
  rw [← one16] at HW
  go_enter Try.func16, Try.ntmps16
  unfold W4
  go_wp2_with fail
  generalize (((w.alloc (.cells (C4 a0 a1 a2 a3) 24)).alloc (.cells (C4 e0 e1 e2 e3) 24)).alloc (.cells (C4 0 0 0 0) 24)).alloc (.cells #[.int .i64 1, .int .i64 0, .int .i64 0, .int .i64 0, .int .i64 0, .int .i64 0, .int .i64 0, .int .i64 0, .int .i64 0, .int .i64 0, .int .i64 0, .int .i64 0, .int .i64 0, .int .i64 0, .int .i64 0, .int .i64 0] 55) = W0 at HW ⊢
  refine Calls.mono (n_add HX.out isw0 _) ?_
  rintro e w11 ⟨v11, rfl, h11, b11⟩
  have H11 : Hid (IsW v11 ((x + 0) % PP)) := h11
  clear h11
  go_wp2_with fail
  refine Calls.mono (g_digits H11.out _) ?_
  rintro e w12 ⟨v12, rfl, h12, b12⟩
  have HG : Hid (IsG 65535 v12 x) := h12.eq (by rw [Int.add_zero, Int.emod_emod])
  obtain ⟨fx, rfl, sx, mx⟩ := HG.out
  have hb2 : Below W0.heap.size W0 w12 := b11.trans (b12.mono b11.size)
  have hz := heap_alloc_new w12 (.cells (vec 16 (gv fun _ => 0)) 55)
  have hl : w.heap.size + 3 < w12.heap.size := (HW.out.2.2.1.of_block (hb2.block _ HW.out.2.2.1.lt)).lt
  have HP : Hid (PgIn e0 e1 e2 e3 fx (fun j => if j = 0 then 1 else 0) w12.heap.size w ((w12.alloc (.cells (vec 16 (gv fun _ => 0)) 55)).setRow w12.heap.size (vec 16 (gv fx)))) := by
    have k : Below W0.heap.size W0 ((w12.alloc (.cells (vec 16 (gv fun _ => 0)) 55)).setRow w12.heap.size (vec 16 (gv fx))) := below_setRow' (hb2.alloc hb2.size _) hb2.size _
    exact ⟨kept HW.out.1 k, kept HW.out.2.1 k, HW.out.2.2.1.of_block (k.block _ HW.out.2.2.1.lt), heap_row (setRow_heap _ _ _ _ _ _ hz), hl, HW.out.2.2.2.trans (k.mono HW.out.2.2.2.size)⟩
  clear h12 sx mx b11 b12 hb2 HW H11 HX
  rw [← zero16] at hz HP
  go_wp2_with (first | (refine wpList_store_row rfl 55 _ _ rfl w12.heap.size _ rfl rfl 55 _ hz (info55v _) (by simp) (one_gv _ _) ?_))
  clear hz hl
  generalize (w12.alloc (.cells #[.int .i64 0, .int .i64 0, .int .i64 0, .int .i64 0, .int .i64 0, .int .i64 0, .int .i64 0, .int .i64 0, .int .i64 0, .int .i64 0, .int .i64 0, .int .i64 0, .int .i64 0, .int .i64 0, .int .i64 0, .int .i64 0] 55)).setRow w12.heap.size (vec 16 (gv fx)) = W1 at HP ⊢
  generalize w12.heap.size = z at HP ⊢
  go_loopw [7] (fun s wr => ∃ (k : Nat) (fo : Nat → Int), k ≤ 256 ∧ s = .int .i64 (255 - (k : Int)) ∧ Hid (IsG 65612 (.agg (vec 16 (gv fo))) (x ^ (E / 2 ^ (256 - k)))) ∧ PgIn e0 e1 e2 e3 fx fo z w wr) (fun i _ => (intOf i + 1).toNat)
  case atStart => exact ⟨0, _, by omega, rfl, (isG_one.le (by decide)).eq (by rw [Nat.div_eq_of_lt HE.out.2.2, Int.pow_zero]), HP.out⟩
  case round =>
    obtain ⟨k, fo, hk, rfl, HF, hin⟩ := hrel
    clear HP
    by_cases hlt : k < 256
    · obtain ⟨j, hj⟩ : ∃ j : Nat, j = 255 - k := ⟨_, rfl⟩
      have ej : (255 : Int) - k = (j : Int) := by omega
      rw [ej]
      have H1 : Hid (PgIn e0 e1 e2 e3 fx fo z w wr) := hin
      clear hin
      have hj256 : j < 256 := by omega
      have HJ : Hid (j = 255 - k) := hj
      clear hj ej
      go_wp2_with (first | (refine wpList_load_row rfl 55 _ rfl (w.heap.size + 3) rfl 55 _ (0, 0) _ (row_heap H1.out.2.2.1) Try.underlying55 rfl (info55v _) ?_))
      refine Calls.mono (g_times (HF.out.le (by decide)) (HF.out.le (by decide)) _) ?_
      rintro e w19 ⟨v19, rfl, h19, b19⟩
      have h20 := pg_sq h19
      obtain ⟨f2, rfl, _, _⟩ := h19
      have H2 : Hid (IsG 65612 (.agg (vec 16 (gv f2))) (x ^ (2 * (E / 2 ^ (256 - k))))) := h20
      have H3 : Hid (PgIn e0 e1 e2 e3 fx fo z w w19) := H1.out.more b19
      have H4 : Hid (PgIn e0 e1 e2 e3 fx f2 z w (w19.setRow (w.heap.size + 3) (vec 16 (gv f2)))) := H3.out.put f2
      clear h20 H1 b19
      have hl := fcell_of H4.out.1 (j / 64) (by omega)
      have hL := limbOf_limb HE.out.1 (j / 64)
      have hd := fdiv_limb hL (j % 64)
      have hand := fand_1 _ hd.1 hd.2
      rw [← fbit_num e0 e1 e2 e3 HE.out.1 j hj256, HE.out.2.1] at hand
      generalize limbOf e0 e1 e2 e3 (j / 64) = lm at *
      by_cases hbit : E / 2 ^ j % 2 = 1
      · have hB : (E : Int) / 2 ^ j % 2 = 1 := by exact_mod_cast hbit
        rw [hB] at hand
        have hT := ftop_one E k hlt (by rw [← HJ.out]; exact hbit)
        clear hB hbit
        go_wp2_with (first | (refine wpList_load_row rfl 55 _ rfl (w.heap.size + 3) rfl 55 _ (0, 0) _ (row_heap H4.out.2.2.1) Try.underlying55 rfl (info55v _) ?_) | (refine wpList_load_row rfl 55 _ rfl z rfl 55 _ (0, 0) _ (row_heap H4.out.2.2.2.1) Try.underlying55 rfl (info55v _) ?_) | (refine wpList_store_row rfl 55 _ _ rfl (w.heap.size + 3) _ rfl rfl 55 _ (row_heap H3.out.2.2.1) (info55v _) (by simp) (one_gv _ _) ?_))
        clear hl hL hd hand
        generalize w19.setRow (w.heap.size + 3) (vec 16 (gv f2)) = W4 at H4 ⊢
        refine Calls.mono (g_times (H2.out.le (by decide)) (HG.out.le (by decide)) _) ?_
        rintro e w32 ⟨v32, rfl, h32, b32⟩
        have h33 : IsG 65612 v32 (x ^ (E / 2 ^ (256 - (k + 1)))) := h32.eq (by rw [show 256 - (k + 1) = 255 - k by omega, ← hT, Int.pow_succ])
        obtain ⟨f3, rfl, _, _⟩ := h32
        have H5 : Hid (PgIn e0 e1 e2 e3 fx f2 z w w32) := H4.out.more b32
        have H6 : Hid (IsG 65612 (.agg (vec 16 (gv f3))) (x ^ (E / 2 ^ (256 - (k + 1))))) := h33
        clear h33 H4 b32 hT H2 H3
        go_wp2_with (first | (refine wpList_store_row rfl 55 _ _ rfl (w.heap.size + 3) _ rfl rfl 55 _ (row_heap H5.out.2.2.1) (info55v _) (by simp) (one_gv _ _) ?_))
        exact ⟨⟨k + 1, f3, by omega, by have := HJ.out; congr 1; omega, H6, H5.out.put f3⟩, by have := HJ.out; simp [intOf]⟩
      · have hB : (E : Int) / 2 ^ j % 2 = 0 := by
          have e : ((E : Int) / 2 ^ j) = ((E / 2 ^ j : Nat) : Int) := by simp
          rw [e]; omega
        rw [hB] at hand
        have hT := ftop_zero E k hlt (by rw [← HJ.out]; exact hbit)
        have H6 : Hid (IsG 65612 (.agg (vec 16 (gv f2))) (x ^ (E / 2 ^ (256 - (k + 1))))) := H2.out.eq (by rw [show 256 - (k + 1) = 255 - k by omega, ← hT])
        clear hB hbit hT H2
        go_wp2_with (first | (refine wpList_store_row rfl 55 _ _ rfl (w.heap.size + 3) _ rfl rfl 55 _ (row_heap H3.out.2.2.1) (info55v _) (by simp) (one_gv _ _) ?_))
        exact ⟨⟨k + 1, f2, by omega, by have := HJ.out; congr 1; omega, H6, H4.out⟩, by have := HJ.out; simp [intOf]⟩
    · have hk2 : k = 256 := by omega
      have HF2 : Hid (IsG 65612 (.agg (vec 16 (gv fo))) (x ^ E)) := HF.out.eq (by rw [hk2, Nat.sub_self, Nat.pow_zero, Nat.div_one])
      have ek : (255 : Int) - k = -1 := by omega
      rw [ek]
      have H1 : Hid (PgIn e0 e1 e2 e3 fx fo z w wr) := hin
      clear hin HF ek hk2
      go_wp2_with (first | (refine wpList_load_row rfl 55 _ rfl (w.heap.size + 3) rfl 55 _ (0, 0) _ (row_heap H1.out.2.2.1) Try.underlying55 rfl (info55v _) ?_))
      refine Calls.mono (g_small (HF2.out.le (by decide)) _) ?_
      rintro e w34 ⟨v34, rfl, h34, b34⟩
      obtain ⟨s0, s1, s2, s3, rfl, ls, ns⟩ := h34
      have H5 := H1.out.more b34
      have hz := H5.2.1
      have hB := H5.2.2.2.2.2
      clear H1 H5 b34
      go_wp2_with (first | (refine wpList_store_row rfl 24 _ _ rfl (w.heap.size + 2) (C4 s0 s1 s2 s3) rfl rfl 24 _ hz (info24c _ _ _ _) rfl (fone4 _ _ _ _) ?_))
      exact bodyPost_ret (results_cell_row rfl _ _ _ _ _ _ _ rfl (setRow_heap _ _ _ _ _ _ hz) Try.underlying24 rfl (info24c _ _ _ _)) rfl ⟨_, rfl, ⟨s0, s1, s2, s3, rfl, ls, ns⟩, below_setRow hB (by omega) _⟩
end Go.Proofs.Ytmflilgppllebaa
