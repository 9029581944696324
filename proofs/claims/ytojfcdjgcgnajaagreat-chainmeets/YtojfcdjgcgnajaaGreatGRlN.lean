/- HV, CN, CO, RlM, RlN -/
import Derived.Test.YtojfcdjgcgnajaaGreatVF
import Derived.Test.YtojfcdjgcgnajaaGreatDM
import Derived.Test.YtojfcdjgcgnajaaGreatGCM
import Derived.Test.YtojfcdjgcgnajaaGreatGW1
import Derived.Carry
namespace Go.Proofs.YtojfcdjgcgnajaaGreat
open Go.RowKit
set_option linter.unusedSimpArgs false
set_option linter.unusedVariables false
def Holds (n R S : Int) (m : Nat → BitVec 8) (len : Nat) : Prop := ∃ pk pr : Pt, decK n = some (pk.x, pk.y) ∧ decK R = some (pr.x, pr.y) ∧ S < LL ∧ (Pt.mul S.toNat Pt.base).add (Pt.mul (kN R n m len).toNat pk.neg) = pr
theorem some_pt {a b c d : K} (h : some (a, b) = some (c, d)) : a = c ∧ b = d := by cases h; exact ⟨rfl, rfl⟩
theorem g_verify {n R S : Int} (n0 : 0 ≤ n) (n1 : n < T256) (r0 : 0 ≤ R) (r1 : R < T256) (s0 : 0 ≤ S) (s1 : S < T256) (am : Option Addr) (len capm : Nat) (m : Nat → BitVec 8) (w : World) (hm : Sha.Bytes w am len capm m) :
 Calls Tryz.prog 53 #[keyV n, .slice am len capm, sigV R S] w fun e w' => ∃ b : Bool, e = .returned (.bool b) ∧ (b = true ↔ Holds n R S m len) ∧ Below w.heap.size w w' := by
 have no : ∀ {e : Ending} {w' : World}, ¬ Holds n R S m len → (e = .returned (.bool false) ∧ Below w.heap.size w w') → ∃ b : Bool, e = .returned (.bool b) ∧ (b = true ↔ Holds n R S m len) ∧ Below w.heap.size w w' :=
  fun hn h => ⟨false, h.1, ⟨fun e => (by cases e), fun e => absurd e hn⟩, h.2⟩
 cases hk : decK n with
 | none => exact (ver_1 n0 n1 r0 r1 s0 s1 am len capm m hk w hm).mono fun e w' h => no (fun ⟨pk, pr, h, _⟩ => by rw [hk] at h; cases h) h
 | some ab =>
   obtain ⟨a, b⟩ := ab; obtain ⟨pk, rfl, rfl, _⟩ := decK_some n0 n1 hk; cases hr : decK R with
   | none => exact (ver_2 n0 n1 r0 r1 s0 s1 am len capm m hk false (fun _ => rfl) (fun _ => rfl) (fun pr h => absurd (hr.symm.trans h) (by simp)) w hm).mono fun e w' h => no (fun ⟨pk, pr, _, h, _⟩ => by rw [hr] at h; cases h) h
   | some cd =>
     obtain ⟨c, d⟩ := cd; obtain ⟨pr, rfl, rfl, _⟩ := decK_some r0 r1 hr; by_cases hS : S < LL
     · refine (ver_2 n0 n1 r0 r1 s0 s1 am len capm m hk (decide (((Pt.mul S.toNat Pt.base).add (Pt.mul (kN R n m len).toNat pk.neg)).x = pr.x) && decide (((Pt.mul S.toNat Pt.base).add (Pt.mul (kN R n m len).toNat pk.neg)).y = pr.y)) (fun h => absurd (hr.symm.trans h) (by simp)) (fun h => absurd hS (Int.not_lt.2 h)) (fun q h _ => by rw [Pt.same (some_pt (hr.symm.trans h)).1 (some_pt (hr.symm.trans h)).2]) w hm).mono ?_
       rintro e w' ⟨rfl, hb⟩; refine ⟨_, rfl, ?_, hb⟩; rw [Bool.and_eq_true, decide_eq_true_eq, decide_eq_true_eq]; constructor
       · rintro ⟨h1, h2⟩
         exact ⟨pk, pr, hk, hr, hS, Pt.same h1 h2⟩
       · rintro ⟨p, q, h1, h2, _, h3⟩
         rw [hk] at h1; rw [hr] at h2; obtain ⟨e1, e2⟩ := some_pt h1; obtain ⟨e3, e4⟩ := some_pt h2; rw [← Pt.same e1 e2, ← Pt.same e3 e4] at h3; rw [h3]; exact ⟨rfl, rfl⟩
     · exact (ver_2 n0 n1 r0 r1 s0 s1 am len capm m hk false (fun _ => rfl) (fun _ => rfl) (fun _ _ h => absurd h hS) w hm).mono fun e w' h => no (fun ⟨_, _, _, _, h, _⟩ => hS h) h
theorem neg_zero' : Pt.zero.neg = Pt.zero := by
 have := add_neg Pt.zero; rw [zero_add] at this; exact this
theorem neg_of {p q : Pt} (h : p.add q = Pt.zero) : q = p.neg := by
 have : p.neg.add (p.add q) = p.neg.add Pt.zero := by rw [h]
 rw [← add_assoc, add_comm p.neg p, add_neg, zero_add, add_zero] at this; exact this
theorem neg_sum (p q : Pt) : (p.add q).neg = p.neg.add q.neg := by
 refine (neg_of ?_).symm; rw [add_swap, add_neg, add_neg, add_zero]
theorem mul_neg (k : Nat) (p : Pt) : Pt.mul k p.neg = (Pt.mul k p).neg := by
 induction k with
 | zero => rw [mul_nought, mul_nought, neg_zero']
 | succ k ih => rw [mul_next, mul_next, ih, neg_sum]
theorem away_back (x y : Pt) : (x.add y).add y.neg = x := by rw [add_assoc, add_neg, add_zero]
theorem add_cancel {x y z : Pt} (h : x.add z = y.add z) : x = y := by
 have := congrArg (fun t => t.add z.neg) h; simp only [away_back] at this; exact this
theorem LL_nat : LL = (LN : Int) := by decide
theorem holds_iff (a r : Nat) (S : Int) (s0 : 0 ≤ S) (m : Nat → BitVec 8) (len : Nat) : Holds (encP (Pt.mul a Pt.base)) (encP (Pt.mul r Pt.base)) S m len ↔ S < LL ∧ Pt.mul S.toNat Pt.base = Pt.mul (r + (kN (encP (Pt.mul r Pt.base)) (encP (Pt.mul a Pt.base)) m len).toNat * a) Pt.base := by
 constructor
 · rintro ⟨pk, pr, h1, h2, h3, h4⟩
   rw [decK_enc] at h1 h2; obtain ⟨e1, e2⟩ := some_pt h1; obtain ⟨e3, e4⟩ := some_pt h2; rw [← Pt.same e1 e2, ← Pt.same e3 e4, mul_neg] at h4; refine ⟨h3, ?_⟩; rw [mul_add, mul_mul]; refine add_cancel (z := (Pt.mul (kN (encP (Pt.mul r Pt.base)) (encP (Pt.mul a Pt.base)) m len).toNat (Pt.mul a Pt.base)).neg) ?_; rw [away_back]; exact h4
 · rintro ⟨h3, h4⟩
   refine ⟨_, _, decK_enc _, decK_enc _, h3, ?_⟩; rw [h4, mul_neg, mul_add, mul_mul, away_back]
theorem modL_bd (x : Int) : 0 ≤ x % LL ∧ x % LL < LL := ⟨Int.emod_nonneg _ (by decide), Int.emod_lt_of_pos _ (by decide)⟩
theorem second_mul (D : Nat → BitVec 8) (m : Nat → BitVec 8) (len : Nat) : Pt.mul (secondN D m len).toNat Pt.base = Pt.mul ((rN D m len).toNat + (kkN D m len).toNat * seedN D) Pt.base := by
 have hr : 0 ≤ rN D m len := (modL_bd _).1; have hk : 0 ≤ kkN D m len := (modL_bd _).1; have ha : 0 ≤ secN D % LL := (modL_bd _).1; unfold secondN seedN; obtain ⟨r, hr'⟩ := Int.eq_ofNat_of_zero_le hr; obtain ⟨k, hk'⟩ := Int.eq_ofNat_of_zero_le hk; obtain ⟨a, ha'⟩ := Int.eq_ofNat_of_zero_le ha; rw [hr', hk', ha', LL_nat, ← Int.natCast_mul, ← Int.natCast_emod, ← Int.natCast_add, ← Int.natCast_emod, Int.toNat_natCast, Int.toNat_natCast, Int.toNat_natCast, Int.toNat_natCast, mul_modL, mul_add, mul_modL, ← mul_add]
theorem second_bd (D : Nat → BitVec 8) (m : Nat → BitVec 8) (len : Nat) : 0 ≤ secondN D m len ∧ secondN D m len < LL := modL_bd _
theorem signed_holds (D : Nat → BitVec 8) (m : Nat → BitVec 8) (len : Nat) : Holds (pubN D) (firN D m len) (secondN D m len) m len :=
 (holds_iff (seedN D) (rN D m len).toNat (secondN D m len) (second_bd D m len).1 m len).2 ⟨(second_bd D m len).2, second_mul D m len⟩
end Go.Proofs.YtojfcdjgcgnajaaGreat
namespace Go.Proofs.YtojfcdjgcgnajaaGreat
open Go.RowKit
set_option linter.unusedSimpArgs false
set_option linter.unusedVariables false
set_option maxRecDepth 100000 in
set_option maxHeartbeats 2000000 in
theorem keyItself_any (n : Int) (w : World) : Calls Tryz.prog 48 #[keyV n] w fun e w' => e = .returned (keyV n) ∧ Below w.heap.size w w' := by
 have V0 : Hid (((w.alloc (.cells (vec 32 (kb n)) 30)).alloc (.cells (vec 32 (kb 0)) 30)).rowIs w.heap.size 30 32 (kb n) ∧ ((w.alloc (.cells (vec 32 (kb n)) 30)).alloc (.cells (vec 32 (kb 0)) 30)).rowIs (w.heap.size + 1) 30 32 (kb 0) ∧ Below w.heap.size w ((w.alloc (.cells (vec 32 (kb n)) 30)).alloc (.cells (vec 32 (kb 0)) 30))) :=
  ⟨rowOld (heap_row (heap_alloc_new _ _)) _, heap_row (heapAt _ _ _ (by simp)), by go_grown⟩
 have hz := (zero_of_info zero41).1; unfold keyV; go_enter Tryz.func48, Tryz.ntmps48; obtain ⟨W, hW⟩ : ∃ W, W = (w.alloc (.cells (vec 32 (kb n)) 30)).alloc (.cells (vec 32 (kb 0)) 30) := ⟨_, rfl⟩
 rw [← hW] at V0; have HW : Hid (W = (w.alloc (.cells (vec 32 (kb n)) 30)).alloc (.cells (vec 32 (kb 0)) 30)) := hW; clear hW; go_wp2_with (first | (rw [← HW.out]; refine wpList_load_row rfl 30 _ rfl w.heap.size rfl 30 _ (0, 0) _ (row_heap V0.out.1) Tryz.underlying30 rfl (info41v _) ?_) | (refine wpList_store_row rfl 30 _ _ rfl (w.heap.size + 1) _ rfl rfl 30 _ (row_heap V0.out.2.1) (info41v _) (by simp) (one_kb _ _) ?_)); exact bodyPost_ret (results_cell_row rfl _ _ _ _ _ _ _ rfl (setRow_heap _ _ _ _ _ _ (row_heap V0.out.2.1)) Tryz.underlying30 rfl (info41v _)) rfl ⟨rfl, below_setRow V0.out.2.2 (by omega) _⟩
theorem el30 : Tryz.prog.underlying 123 = some (.map 30 124) := by kernel_rfl
theorem look123 {w : World} {m : Nat} (h : w.heap[m]? = some (.map #[] 0)) (n : Int) : (Instr.lookup 123 (.map (some m)) (.agg (vec 32 (kb n))) true).run Tryz.prog w = .ok (.tuple #[.agg #[], .bool false]) w :=
 run_lookup_arr 123 30 124 5 32 .u8 el30 (by kernel_rfl) (fun w => by kernel_rfl) (fun w => by kernel_rfl) (by kernel_rfl) (.agg #[]) (fun w => by kernel_rfl) (l := []) (clock := 0) h _
theorem upd123 {w : World} {m : Nat} (h : w.heap[m]? = some (.map #[] 0)) (n : Int) : ∃ o, (Instr.mapUpdate 123 (.map (some m)) (.agg (vec 32 (kb n))) (.agg #[])).run Tryz.prog w = .ok () (w.putObj m o) :=
 ⟨_, run_update_new 123 30 124 5 32 .u8 el30 (by kernel_rfl) (fun w => by kernel_rfl) (fun w => by kernel_rfl) (by kernel_rfl) [] (clock := 0) h _ (.agg #[]) rfl⟩
set_option maxRecDepth 100000 in
set_option maxHeartbeats 4000000 in
theorem apart1_any (n : Int) (g cp : Nat) (w : World) (hk : w.rowIs g 30 32 (kb n)) : Calls Tryz.prog 47 #[.slice (some ⟨g, 0, none⟩) 1 1, .func (.func 48) #[] #[]] w fun e w' => e = .returned (.bool true) ∧ Below w.heap.size w w' := by
 have hm : ∀ w : World, (Instr.makeMap 123 none).run Tryz.prog w = .ok (.map (some w.heap.size)) (w.alloc (.map #[] 0)) := fun w => run_makeMap (P := Tryz.prog) 123 w
 have hz := (zero_of_info zero41).1; have HK : Hid (w.rowIs g 30 32 (kb n)) := hk; clear hk; go_enter Tryz.func47, Tryz.ntmps47; go_wp2_with fail; have R0 : (w.alloc (.map #[] 0)).heap[w.heap.size]? = some (.map #[] 0) := heap_alloc_new _ _; have R1 : (w.alloc (.map #[] 0)).rowIs g 30 32 (kb n) := rowOld HK.out _; have R2 : Below w.heap.size w (w.alloc (.map #[] 0)) := by go_grown
 generalize w.alloc (.map #[] 0) = W0 at R0 R1 R2 ⊢; have HR : Hid (W0.heap[w.heap.size]? = some (.map #[] 0) ∧ W0.rowIs g 30 32 (kb n) ∧ Below w.heap.size w W0) := ⟨R0, R1, R2⟩
 clear R0 R1 R2 HK; go_loopw [14] (fun i wr => (i = .int .i64 0 ∧ wr = W0) ∨ (i = .int .i64 1 ∧ Below w.heap.size w wr)) (fun i _ => (1 - intOf i).toNat)
 case atStart => exact Or.inl ⟨rfl, rfl⟩
 case round =>
  rcases hrel with ⟨rfl, rfl⟩ | ⟨rfl, hb⟩
  · have hml : w.heap.size < wr.heap.size := flt_of_some HR.out.1
    have hgl : g < wr.heap.size := HR.out.2.1.lt; have A1 : Hid ((wr.alloc (.cells (vec 32 (kb 0)) 30)).heap[wr.heap.size]? = some (.cells (vec 32 (kb 0)) 30 (0, 0))) := heap_alloc_new _ _; obtain ⟨W1, hW1⟩ : ∃ W1, W1 = (wr.alloc (.cells (vec 32 (kb 0)) 30)).setRow wr.heap.size (vec 32 (kb n)) := ⟨_, rfl⟩
    have HW1 : Hid (W1 = (wr.alloc (.cells (vec 32 (kb 0)) 30)).setRow wr.heap.size (vec 32 (kb n))) := hW1; have K1 : Hid (W1.heap[w.heap.size]? = some (.map #[] 0) ∧ W1.rowIs wr.heap.size 30 32 (kb n) ∧ Below w.heap.size w W1) := by
     rw [hW1]; refine ⟨?_, heap_row (setRow_heap _ _ _ _ _ _ A1.out), below_setRow (HR.out.2.2.alloc (by omega) _) (by omega) _⟩; exact (setRow_other _ _ _ _ (by omega)).trans ((heap_alloc_old _ _ (by omega)).trans HR.out.1)
    clear hW1; go_wp2_with (first | (refine wpList_load_row rfl 30 _ rfl g rfl 30 _ (0, 0) _ (row_heap HR.out.2.1) Tryz.underlying30 rfl (info41v _) ?_) | (refine wpList_store_row rfl 30 _ _ rfl wr.heap.size _ rfl rfl 30 _ A1.out (info41v _) (by simp) (one_kb _ _) ?_; rw [← HW1.out]) | (refine wpList_load_row rfl 30 _ rfl wr.heap.size rfl 30 _ (0, 0) _ (row_heap K1.out.2.1) Tryz.underlying30 rfl (info41v _) ?_)); refine (keyItself_any n W1).mono ?_; rintro e w2 ⟨rfl, b2⟩; have hl2 : w.heap.size < w2.heap.size := Nat.lt_of_lt_of_le (flt_of_some K1.out.1) b2.size; have A2 : Hid ((w2.alloc (.cells (vec 32 (kb 0)) 30)).heap[w2.heap.size]? = some (.cells (vec 32 (kb 0)) 30 (0, 0))) := heap_alloc_new _ _; obtain ⟨W3, hW3⟩ : ∃ W3, W3 = (w2.alloc (.cells (vec 32 (kb 0)) 30)).setRow w2.heap.size (vec 32 (kb n)) := ⟨_, rfl⟩
    have HW3 : Hid (W3 = (w2.alloc (.cells (vec 32 (kb 0)) 30)).setRow w2.heap.size (vec 32 (kb n))) := hW3; have K3 : Hid (W3.heap[w.heap.size]? = some (.map #[] 0) ∧ W3.rowIs w2.heap.size 30 32 (kb n) ∧ Below w.heap.size w W3) := by
     rw [hW3]; refine ⟨?_, heap_row (setRow_heap _ _ _ _ _ _ A2.out), below_setRow ((K1.out.2.2.trans (b2.mono K1.out.2.2.size)).alloc (by omega) _) (by omega) _⟩; exact (setRow_other _ _ _ _ (by omega)).trans ((heap_alloc_old _ _ (by omega)).trans ((b2.block _ (flt_of_some K1.out.1)).trans K1.out.1))
    have hk := look123 K3.out.1 n; have K4 : Hid ((W3.alloc (.cells #[] 124)).heap[w.heap.size]? = some (.map #[] 0) ∧ (W3.alloc (.cells #[] 124)).rowIs w2.heap.size 30 32 (kb n) ∧ Below w.heap.size w (W3.alloc (.cells #[] 124))) :=
     ⟨(heap_alloc_old _ _ (flt_of_some K3.out.1)).trans K3.out.1, rowOld K3.out.2.1 _, K3.out.2.2.alloc K3.out.2.2.size _⟩
    obtain ⟨o, ho⟩ := upd123 K4.out.1 n; clear hW3 b2 K1 HW1 A1; go_wp2_with (first | (refine wpList_load_row rfl 30 _ rfl w2.heap.size rfl 30 _ (0, 0) _ (row_heap K3.out.2.1) Tryz.underlying30 rfl (info41v _) ?_) | (refine wpList_store_row rfl 30 _ _ rfl w2.heap.size _ rfl rfl 30 _ A2.out (info41v _) (by simp) (one_kb _ _) ?_; rw [← HW3.out]) | (refine wpList_load_row rfl 30 _ rfl w2.heap.size rfl 30 _ (0, 0) _ (row_heap K4.out.2.1) Tryz.underlying30 rfl (info41v _) ?_)); exact ⟨Or.inr ⟨rfl, below_putObj K4.out.2.2 (Nat.le_refl _) o⟩, by decide⟩
  · go_wp2
    go_ret; exact ⟨rfl, hb⟩
theorem apart0_any (w : World) : Calls Tryz.prog 49 #[.slice none 0 0, .func (.func 50) #[] #[]] w fun e w' => e = .returned (.bool true) ∧ Below w.heap.size w w' := by
 have hm : ∀ w : World, (Instr.makeMap 126 none).run Tryz.prog w = .ok (.map (some w.heap.size)) (w.alloc (.map #[] 0)) := fun w => run_makeMap (P := Tryz.prog) 126 w
 go_enter Tryz.func49, Tryz.ntmps49
 go_wp2_with fail
 have R2 : Below w.heap.size w (w.alloc (.map #[] 0)) := by go_grown
 generalize w.alloc (.map #[] 0) = W0 at R2 ⊢; go_loopw [14] (fun i wr => i = .int .i64 0 ∧ wr = W0) (fun i _ => 0)
 case atStart => exact ⟨rfl, rfl⟩
 case round =>
  obtain ⟨rfl, rfl⟩ := hrel; go_wp2; go_ret; exact ⟨rfl, R2⟩
theorem index0_any (w : World) : Calls Tryz.prog 71 #[.slice none 0 0, .func (.func 46) #[] #[]] w fun e w' => e = .returned (.int .i64 (-1)) ∧ w' = w := by
 go_enter Tryz.func71, Tryz.ntmps71
 go_wp2_with fail
 go_loopw [8] (fun i wr => i = .int .i64 0 ∧ wr = w) (fun i _ => 0)
 case atStart => exact ⟨rfl, rfl⟩
 case round =>
  obtain ⟨rfl, rfl⟩ := hrel; go_wp2; go_ret; exact ⟨rfl, rfl⟩
theorem contains0_any (w : World) : Calls Tryz.prog 45 #[.slice none 0 0, .func (.func 46) #[] #[]] w fun e w' => e = .returned (.bool false) ∧ w' = w := by
 go_enter Tryz.func45, Tryz.ntmps45
 go_wp2_with fail
 refine (index0_any w).mono ?_; rintro e w' ⟨rfl, hw⟩; obtain rfl := hw.symm; go_wp2; go_ret; exact ⟨rfl, rfl⟩
end Go.Proofs.YtojfcdjgcgnajaaGreat
namespace Go.Proofs.YtojfcdjgcgnajaaGreat
open Go.RowKit
set_option linter.unusedSimpArgs false
set_option linter.unusedVariables false
abbrev gV (g : Nat) : Value := .agg #[.int .u64 7, .slice (some ⟨g, 0, none⟩) 1 1, .slice none 0 0]
abbrev gC (g : Nat) : Obj := .cells #[.int .u64 7, .slice (some ⟨g, 0, none⟩) 1 1, .slice none 0 0] 37
theorem cellAt {w : World} {b i : Nat} {c : Array Value} {ty : TypeId} {v : Value} (h : w.heap[b]? = some (.cells c ty (0, 0))) (hi : c[i]? = some v) : w.cell? ⟨b, i, none⟩ = some v := by
 rw [cell_of_row _ _ i _ _ _ h]; exact hi
set_option maxHeartbeats 2000000 in
theorem right_any (n : Int) (g : Nat) (w : World) (hk : w.rowIs g 30 32 (kb n)) : Calls Tryz.prog 27 #[gV g] w fun e w' => e = .returned (.int .i64 0) ∧ Below w.heap.size w w' := by
 have R0 : Hid ((w.alloc (gC g)).rowIs g 30 32 (kb n) ∧ Below w.heap.size w (w.alloc (gC g)) ∧ (w.alloc (gC g)).heap[w.heap.size]? = some (gC g)) := ⟨rowOld hk _, by go_grown, heap_alloc_new _ _⟩
 clear hk; unfold gV; go_enter Tryz.func27, Tryz.ntmps27; go_wp2_with fail; refine (contains0_any _).mono ?_; rintro e w' ⟨rfl, hw⟩; obtain rfl := hw.symm; go_wp2_with fail; refine (apart1_any n g 1 _ R0.out.1).mono ?_; rintro e w1 ⟨rfl, b1⟩; have hl : w.heap.size < w1.heap.size := Nat.lt_of_lt_of_le (by simp) b1.size; have k0 : w1.cell? ⟨w.heap.size, 2, none⟩ = some (.slice none 0 0) := by
  exact cellAt ((b1.block _ (by simp)).trans R0.out.2.2) rfl
 have HB : Hid (Below w.heap.size w w1) := R0.out.2.1.trans (b1.mono R0.out.2.1.size); clear b1 R0; go_wp2_with fail; refine (apart0_any _).mono ?_; rintro e w2 ⟨rfl, b2⟩; have HB2 : Hid (Below w.heap.size w w2) := HB.out.trans (b2.mono HB.out.size); clear b2 HB; go_wp2; go_ret; exact ⟨rfl, HB2.out⟩
theorem wpList_load_w {P : Program} {ops : Array Oper} {rest : List Oper} {o : Oper} {a : Act} {w : World} {Q : Exit → Act → World → Prop} (ty : TypeId) (x : Operand) (ho : o.op = .load ty x)
 (g : Addr) (hx : a.eval x = .pointer (some g)) (v : Value) (hl : (loadVar ty g).run P w = .ok v w) (hw : Region.wanted o (yielded ops a.tmps) = true) (h : wpList P ops Q rest (a.put o.dst v) w) : wpList P ops Q (o :: rest) a w := by
 refine wpList_step fun K hK' => ?_
 rw [if_pos hw]; unfold Oper.wp; rw [Sha.run_load_exec ty x ho g hx hl]; exact hK' _ _ h
def blk (j : Nat) : Int := if j = 0 then 1 else 0
def voF (sg : Nat → Value) (i : Nat) : Value := if i = 0 then .int .i64 2 else if i = 1 then .int .u64 1 else if i = 2 then .int .i64 0 else if i < 35 then bI blk (i - 3) else if i = 35 then .int .i64 0 else sg (i - 36)
def coF (v : Value) (i : Nat) : Value := if i = 0 then .int .u64 1 else if i = 1 then .int .i64 0 else if i < 34 then bI blk (i - 2) else v
theorem voF_blk (sg : Nat → Value) (j : Nat) (hj : j < 32) : voF sg (3 + j) = bI blk j := by
 unfold voF; rw [if_neg (by omega), if_neg (by omega), if_neg (by omega), if_pos (by omega), Nat.add_sub_cancel_left]
theorem voF_sg (sg : Nat → Value) (j : Nat) (hj : j < 64) : voF sg (36 + j) = sg j := by
 unfold voF; rw [if_neg (by omega), if_neg (by omega), if_neg (by omega), if_neg (by omega), if_neg (by omega), Nat.add_sub_cancel_left]
theorem coF_blk (v : Value) (j : Nat) (hj : j < 32) : coF v (2 + j) = bI blk j := by
 unfold coF; rw [if_neg (by omega), if_neg (by omega), if_pos (by omega), Nat.add_sub_cancel_left]
theorem load38v {w : World} {b ty : Nat} {sg : Nat → Value} (h : w.rowIs b ty 100 (voF sg)) : (loadVar 38 ⟨b, 3, none⟩).run Tryz.prog w = .ok (.agg (vec 32 (bI blk))) w :=
 Sha.run_loadVar_mid w b 3 32 38 5 (bI blk) (fun j hj => (h.cell (by omega)).trans (congrArg some (voF_blk sg j hj))) (by kernel_rfl) (by kernel_rfl)
theorem load38c {w : World} {b : Nat} {v : Value} (h : w.rowIs b 49 35 (coF v)) : (loadVar 38 ⟨b, 2, none⟩).run Tryz.prog w = .ok (.agg (vec 32 (bI blk))) w :=
 Sha.run_loadVar_mid w b 2 32 38 5 (bI blk) (fun j hj => (h.cell (by omega)).trans (congrArg some (coF_blk v j hj))) (by kernel_rfl) (by kernel_rfl)
theorem eq38 (w : World) : (Op.equalIn 10000 38 (.agg (vec 32 (bI blk))) (.agg (vec 32 (bI blk)))).run Tryz.prog w = .ok true w := by
 have := eq_arr (P := Tryz.prog) 38 5 32 .u8 (by kernel_rfl) (fun w => by kernel_rfl) (fun w => by kernel_rfl) (by kernel_rfl) blk blk w; rw [decide_eq_true (fun j _ => rfl)] at this; exact this
theorem vec_at (n : Nat) (f : Nat → Value) (i : Nat) (h : i < (vec n f).size) : (vec n f)[i] = f i := by
 have := get_vec n f i (by rw [size_vec] at h; exact h); rw [Array.getElem?_eq_getElem h] at this; exact Option.some.inj this
set_option maxRecDepth 100000 in
set_option maxHeartbeats 2000000 in
theorem belongs_any (sg : Nat → Value) (v : Value) (w : World) : Calls Tryz.prog 29 #[.agg (vec 35 (coF v)), .agg (vec 100 (voF sg))] w fun e w' => e = .returned (.bool true) ∧ Below w.heap.size w w' := by
 have R0 : ((w.alloc (.cells (vec 35 (coF v)) 49)).alloc (.cells (vec 100 (voF sg)) 69)).rowIs w.heap.size 49 35 (coF v) := rowOld (heap_row (heap_alloc_new _ _)) _; have R1 : ((w.alloc (.cells (vec 35 (coF v)) 49)).alloc (.cells (vec 100 (voF sg)) 69)).rowIs (w.heap.size + 1) 69 100 (voF sg) := heap_row (heapAt _ _ _ (by simp)); have HB : Hid (Below w.heap.size w ((w.alloc (.cells (vec 35 (coF v)) 49)).alloc (.cells (vec 100 (voF sg)) 69))) := by
  have h : Below w.heap.size w ((w.alloc (.cells (vec 35 (coF v)) 49)).alloc (.cells (vec 100 (voF sg)) 69)) := by go_grown
  exact h
 have HL : Hid ((loadVar 38 ⟨w.heap.size + 1, 3, none⟩).run Tryz.prog _ = .ok (.agg (vec 32 (bI blk))) _ ∧ (loadVar 38 ⟨w.heap.size, 2, none⟩).run Tryz.prog _ = .ok (.agg (vec 32 (bI blk))) _) := ⟨load38v R1, load38c R0⟩
 clear R0 R1; have hx := eq38; have hg : ∀ (i : Nat) (h : i < (vec 100 (voF sg)).size), (vec 100 (voF sg))[i] = voF sg i := fun i h => vec_at _ _ _ h
 have hg2 : ∀ (i : Nat) (h : i < (vec 35 (coF v)).size), (vec 35 (coF v))[i] = coF v i := fun i h => vec_at _ _ _ h
 have v0 : voF sg 0 = .int .i64 2 := rfl; have v1 : voF sg 1 = .int .u64 1 := rfl; have v2 : voF sg 2 = .int .i64 0 := rfl; have u0 : coF v 0 = .int .u64 1 := rfl; have u1 : coF v 1 = .int .i64 0 := rfl; go_enter Tryz.func29, Tryz.ntmps29; go_wp2_with (first | (refine wpList_load_w 38 _ rfl ⟨w.heap.size + 1, 3, none⟩ rfl _ HL.out.1 (by rfl) ?_) | (refine wpList_load_w 38 _ rfl ⟨w.heap.size, 2, none⟩ rfl _ HL.out.2 (by rfl) ?_)); go_ret; exact ⟨rfl, HB.out⟩
theorem fit_any (b : Nat) (w : World) (h0 : w.cell? ⟨b, 0, none⟩ = some (.int .i64 0)) : Calls Tryz.prog 72 #[.slice (some ⟨b, 0, none⟩) 1 1] w fun e w' => e = .returned (.bool true) ∧ w' = w := by
 go_enter Tryz.func72, Tryz.ntmps72
 go_wp2_with fail
 go_loopw [7] (fun i wr => (i = .int .i64 0 ∨ i = .int .i64 1) ∧ wr = w) (fun i _ => (1 - intOf i).toNat)
 case atStart => exact ⟨Or.inl rfl, rfl⟩
 case round =>
  obtain ⟨rfl | rfl, rfl⟩ := hrel
  · go_wp2
    exact ⟨⟨Or.inr rfl, by trivial⟩, by decide⟩
  · go_wp2
    go_ret; exact ⟨rfl, rfl⟩
theorem placed_any (g : Nat) (w : World) : Calls Tryz.prog 52 #[gV g, .int .u64 1, .int .i64 0, .int .i64 0] w fun e w' => e = .returned (.bool true) ∧ Below w.heap.size w w' := by
 unfold gV; go_enter Tryz.func52, Tryz.ntmps52; go_wp2_with fail; refine (fit_any _ _ (by simp)).mono ?_; rintro e w' ⟨rfl, hw⟩; obtain rfl := hw.symm; go_wp2; go_ret; exact ⟨rfl, by go_grown⟩
end Go.Proofs.YtojfcdjgcgnajaaGreat
namespace Go.Proofs.YtojfcdjgcgnajaaGreat.Rl
set_option linter.unusedSimpArgs false
set_option linter.unusedVariables false
inductive Tr where
 | mk (l : Bool) (b : List Int) (xs : List Tr)
def Tr.l : Tr → Bool | .mk l _ _ => l
def Tr.b : Tr → List Int | .mk _ b _ => b
def Tr.xs : Tr → List Tr | .mk _ _ xs => xs
theorem Tr.ind {p : Tr → Prop} (h : ∀ l b xs, (∀ x ∈ xs, p x) → p (.mk l b xs)) : ∀ t, p t
 | .mk l b xs => h l b xs fun x _ => Tr.ind h x
 termination_by t => SizeOf.sizeOf t
 decreasing_by
  rename_i hx
  have := List.sizeOf_lt_of_mem hx; simp; omega
def shortB (n : Nat) : List Int := if h : n = 0 then [] else shortB (n / 256) ++ [((n % 256 : Nat) : Int)]
 termination_by n
 decreasing_by omega
theorem shortB_zero : shortB 0 = [] := by rw [shortB]; rfl
theorem shortB_pos {n : Nat} (h : n ≠ 0) : shortB n = shortB (n / 256) ++ [((n % 256 : Nat) : Int)] := by rw [shortB, dif_neg h]
def Byt (bs : List Int) : Prop := ∀ c ∈ bs, 0 ≤ c ∧ c < 256
theorem shortB_len (k : Nat) : ∀ n, n < 256 ^ k → (shortB n).length ≤ k := by
 induction k with
 | zero => intro n hn; simp at hn; subst hn; rw [shortB_zero]; simp
 | succ k ih =>
   intro n hn; by_cases h : n = 0
   · subst h; rw [shortB_zero]; simp
   · rw [shortB_pos h, List.length_append]
     have := ih (n / 256) (by rw [Nat.pow_succ] at hn; omega); simp; omega
def headB (kind : Int) (n : Nat) : List Int := if n ≤ 55 then [kind + n] else (kind + 55 + (shortB n).length) :: shortB n
theorem headB_pos (kind : Int) (n : Nat) : 0 < (headB kind n).length := by unfold headB; split <;> simp
def encS (b : List Int) : List Int := if b.length = 1 ∧ b.headD 0 < 128 then b else headB 128 b.length ++ b
mutual
def enc : Tr → List Int
 | .mk l b xs => if l then headB 192 (encL xs).length ++ encL xs else encS b
def encL : List Tr → List Int
 | [] => []
 | x :: xs => enc x ++ encL xs
end
mutual
def shp : Tr → Bool
 | .mk l b xs => (if l then b.isEmpty else xs.isEmpty) && shpL xs
def shpL : List Tr → Bool
 | [] => true
 | x :: xs => shp x && shpL xs
end
mutual
def dep : Tr → Nat
 | .mk l _ xs => if l then depL xs + 1 else 0
def depL : List Tr → Nat
 | [] => 0
 | x :: xs => max (dep x) (depL xs)
end
theorem shpL_iff (xs : List Tr) : shpL xs = true ↔ ∀ x ∈ xs, shp x = true := by
 induction xs with
 | nil => simp [shpL]
 | cons x xs ih => simp [shpL, ih]
theorem depL_le (xs : List Tr) (d : Nat) : depL xs ≤ d ↔ ∀ x ∈ xs, dep x ≤ d := by
 induction xs with
 | nil => simp [depL]
 | cons x xs ih => simp [depL, Nat.max_le, ih]
theorem encL_append (xs ys : List Tr) : encL (xs ++ ys) = encL xs ++ encL ys := by
 induction xs with
 | nil => rfl
 | cons x xs ih => show enc x ++ encL (xs ++ ys) = (enc x ++ encL xs) ++ encL ys; rw [ih, List.append_assoc]
end Go.Proofs.YtojfcdjgcgnajaaGreat.Rl
namespace Go.Proofs.YtojfcdjgcgnajaaGreat.Rl
set_option linter.unusedSimpArgs false
set_option linter.unusedVariables false
theorem Byt.take {s : List Int} (h : Byt s) (k : Nat) : Byt (s.take k) := fun c hc => h c (List.mem_of_mem_take hc)
end Go.Proofs.YtojfcdjgcgnajaaGreat.Rl
