/- EA, EC, EJ, ED, EB, EE, EI, EK -/
import Derived.Test.YtojfcdjgcgnajaaGreatE3
import Derived.Test.YtojfcdjgcgnajaaGreatE4
import Derived.Test.YtojfcdjgcgnajaaGreatGE6
import Derived.Test.YtojfcdjgcgnajaaGreatE7
import Derived.Test.YtojfcdjgcgnajaaGreatGEO
import Derived.Test.YtojfcdjgcgnajaaGreatE9
import Derived.Test.YtojfcdjgcgnajaaGreatGM3
import Derived.Test.YtojfcdjgcgnajaaGreatGFE
import Derived.RangeFuncNested
import Derived.RangeFuncBound
import Derived.RangeFuncCalls
import Derived.RangeFuncLeaves
import Derived.Shelf.Abstract
import Derived.Shelf.RegionOpen
import Derived.OwnWalkIn
import Derived.TacticsInMore
import Derived.LoopNIn
import Derived.LoopIn
namespace Go.Proofs.YtojfcdjgcgnajaaGreat
open Go.RowKit
set_option linter.unusedSimpArgs false
set_option linter.unusedVariables false
theorem wpList_load_want {ops : Array Oper} {rest : List Oper} {o : Oper} {a : Act} {w : World} {Q : Exit → Act → World → Prop} (hw : Region.wanted o (yielded ops a.tmps) = true) (ty : TypeId) (x : Operand) (ho : o.op = .load ty x)
 (g : Addr) (hx : a.eval x = .pointer (some g)) {v : Value} (hrun : (loadVar ty g).run Tryz.prog w = .ok v w) (h : wpList Tryz.prog ops Q rest (a.put o.dst v) w) : wpList Tryz.prog ops Q (o :: rest) a w :=
 wpList_step fun K hK => step_load_run hw ty x ho g hx hrun (hK _ _ h)
end Go.Proofs.YtojfcdjgcgnajaaGreat
namespace Go.Proofs.YtojfcdjgcgnajaaGreat
set_option linter.unusedSimpArgs false
set_option linter.unusedVariables false
structure Pt where
 x : K
 y : K
 on : OnC (toF DD) x y
theorem Pt.same {p q : Pt} (hx : p.x = q.x) (hy : p.y = q.y) : p = q := by
 cases p; cases q; simp only at hx hy; subst hx hy; rfl
def sx (p q : Pt) : K := nx p.x p.y q.x q.y * invK (dp (toF DD) p.x p.y q.x q.y)
def sy (p q : Pt) : K := ny p.x p.y q.x q.y * invK (dm (toF DD) p.x p.y q.x q.y)
theorem quot (a : K) {b : K} (h : b ≠ 0) : a * invK b * b = a := by
 have := invK_mul h; generalize invK b = c at *
 grind
theorem isSum_s (p q : Pt) : IsSum (toF DD) p.x p.y q.x q.y (sx p q) (sy p q) := ⟨quot _ (dp_ne edw p.on q.on), quot _ (dm_ne edw p.on q.on)⟩
def Pt.add (p q : Pt) : Pt := ⟨sx p q, sy p q, sum_on edw p.on q.on (isSum_s p q)⟩
theorem add_is {p q r : Pt} (h : IsSum (toF DD) p.x p.y q.x q.y r.x r.y) : p.add q = r :=
 Pt.same (sum_unique edw p.on q.on (isSum_s p q) h).1 (sum_unique edw p.on q.on (isSum_s p q) h).2
def Pt.zero : Pt := ⟨0, 1, on_none⟩
def Pt.neg (p : Pt) : Pt := ⟨-p.x, p.y, on_neg p.on⟩
theorem add_comm (p q : Pt) : p.add q = q.add p := add_is (sum_comm (isSum_s q p))
theorem add_zero (p : Pt) : p.add Pt.zero = p := add_is sum_none
theorem zero_add (p : Pt) : Pt.zero.add p = p := by rw [add_comm, add_zero]
theorem add_neg (p : Pt) : p.add p.neg = Pt.zero := add_is (sum_away p.on)
theorem add_assoc (p q r : Pt) : (p.add q).add r = p.add (q.add r) := by
 have h := sum_assoc edw p.on q.on r.on (isSum_s p q) (isSum_s q r) (isSum_s (p.add q) r) (isSum_s p (q.add r)); exact Pt.same h.1 h.2
theorem add_swap (a b c d : Pt) : (a.add b).add (c.add d) = (a.add c).add (b.add d) := by
 rw [add_assoc, add_assoc, ← add_assoc b c d, add_comm b c, add_assoc c b d]
def Pt.mul (n : Nat) (p : Pt) : Pt := Nat.rec Pt.zero (fun _ s => s.add p) n
theorem mul_nought (p : Pt) : Pt.mul 0 p = Pt.zero := rfl
theorem mul_next (n : Nat) (p : Pt) : Pt.mul (n + 1) p = (Pt.mul n p).add p := rfl
theorem mul_add (a : Nat) (p : Pt) (b : Nat) : Pt.mul (a + b) p = (Pt.mul a p).add (Pt.mul b p) := by
 induction b with
 | zero => rw [mul_nought, add_zero, Nat.add_zero]
 | succ b ih => rw [← Nat.add_assoc, mul_next, ih, add_assoc, ← mul_next]
theorem mul_zero (n : Nat) : Pt.mul n Pt.zero = Pt.zero := by
 induction n with
 | zero => rw [mul_nought]
 | succ n ih => rw [mul_next, ih, add_zero]
theorem mul_mul (a : Nat) (p : Pt) (b : Nat) : Pt.mul (b * a) p = Pt.mul b (Pt.mul a p) := by
 induction b with
 | zero => rw [Nat.zero_mul, mul_nought, mul_nought]
 | succ b ih => rw [Nat.succ_mul, mul_add, ih, ← mul_next]
def addIf (b : Bool) (s p : Pt) : Pt := if b then s.add p else s
theorem addIf_mul (a : Nat) (b : Bool) (p t : Pt) : addIf b ((Pt.mul a p).add t) p = (Pt.mul (a + b.toNat) p).add t := by
 cases b
 · rfl
 · show ((Pt.mul a p).add t).add p = (Pt.mul (a + 1) p).add t
   rw [add_assoc, add_comm t p, ← add_assoc, ← mul_next]
theorem both_round (a c : Nat) (b1 b2 : Bool) (p q : Pt) :
 addIf b2 (addIf b1 (((Pt.mul a p).add (Pt.mul c q)).add ((Pt.mul a p).add (Pt.mul c q))) p) q = (Pt.mul (2 * a + b1.toNat) p).add (Pt.mul (2 * c + b2.toNat) q) := by
 rw [add_swap, ← mul_add, ← mul_add, addIf_mul, add_comm, ← Nat.two_mul, ← Nat.two_mul, add_comm (Pt.mul (2 * a + b1.toNat) p), add_comm (Pt.mul (2 * c) q), add_comm (Pt.mul (2 * a + b1.toNat) p), addIf_mul]
def RepP (X Y Z T : K) (s : Pt) : Prop := Rep X Y Z T s.x s.y
theorem repP_twice {X Y Z T : K} {s : Pt} (h : RepP X Y Z T s) :
 RepP (((X + Y) * (X + Y) - (Y * Y + X * X)) * ((Z * Z + Z * Z) - (Y * Y - X * X))) ((Y * Y + X * X) * (Y * Y - X * X)) ((Y * Y - X * X) * ((Z * Z + Z * Z) - (Y * Y - X * X))) (((X + Y) * (X + Y) - (Y * Y + X * X)) * (Y * Y + X * X)) (s.add s) :=
 rep_twice edw s.on h (isSum_s s s)
theorem repP_plus {X Y Z T : K} {s p : Pt} (h : RepP X Y Z T s) :
 RepP (((Y + X) * (p.y + p.x) - (Y - X) * (p.y - p.x)) * ((Z + Z) - T * ((toF DD + toF DD) * (p.x * p.y)))) (((Y + X) * (p.y + p.x) + (Y - X) * (p.y - p.x)) * ((Z + Z) + T * ((toF DD + toF DD) * (p.x * p.y)))) (((Z + Z) + T * ((toF DD + toF DD) * (p.x * p.y))) * ((Z + Z) - T * ((toF DD + toF DD) * (p.x * p.y)))) (((Y + X) * (p.y + p.x) - (Y - X) * (p.y - p.x)) * ((Y + X) * (p.y + p.x) + (Y - X) * (p.y - p.x))) (s.add p) :=
 rep_plus edw s.on p.on h (isSum_s s p)
theorem repP_spread (p : Pt) : RepP p.x p.y 1 (p.x * p.y) p := rep_one edw p.x p.y
theorem repP_flat {X Y Z T : K} {s : Pt} (h : RepP X Y Z T s) : X * invK Z = s.x ∧ Y * invK Z = s.y := by
 obtain ⟨hz, rfl, rfl, _⟩ := h; have := invK_mul hz; generalize invK Z = c at *; constructor <;> grind
end Go.Proofs.YtojfcdjgcgnajaaGreat
namespace Go.Proofs.YtojfcdjgcgnajaaGreat
open Go.RowKit
set_option linter.unusedSimpArgs false
set_option linter.unusedVariables false
def ptOf (x y : Int) : Option Pt := if h : (x < PP ∧ y < PP) ∧ toF y * toF y - toF x * toF x = 1 + toF DD * (toF x * toF x) * (toF y * toF y) then some ⟨toF x, toF y, h.2⟩ else none
theorem isW_nn {v : Value} {x : Int} (h : IsW v x) : 0 ≤ x := by
 obtain ⟨a0, a1, a2, a3, _, ⟨⟨h0, _⟩, ⟨h1, _⟩, ⟨h2, _⟩, ⟨h3, _⟩⟩, rfl⟩ := h; unfold num; omega
theorem cmp_cases (x : Int) : cmpN x PP = 0 ∧ ¬ x < PP ∨ cmpN x PP = 1 ∧ ¬ x < PP ∨ cmpN x PP = -1 ∧ x < PP := by
 rcases Int.lt_trichotomy x PP with h | h | h
 · exact Or.inr (Or.inr ⟨cmpN_lt h, h⟩)
 · exact Or.inl ⟨cmpN_eq h, by omega⟩
 · exact Or.inr (Or.inl ⟨cmpN_gt h, by omega⟩)
theorem onC_form (a b d : K) : (b * b - a * a = 1 + d * (a * a * (b * b))) ↔ OnC d a b := by
 unfold OnC; constructor <;> intro h <;> grind
theorem ptOf_none {x y : Int} (h : ¬ (x < PP ∧ y < PP)) : ptOf x y = none := dif_neg (fun e => h e.1)
theorem g_on {p0 p1 : Value} {x y : Int} (h0 : IsW p0 x) (h1 : IsW p1 y) (w : World) : Calls Tryz.prog 59 #[.agg (catW [p0, p1])] w fun e w' => e = .returned (.bool (ptOf x y).isSome) ∧ Below w.heap.size w w' := by
 rcases cmp_cases x with ⟨c, hx⟩ | ⟨c, hx⟩ | ⟨c, hx⟩
 · rw [ptOf_none (fun e => hx e.1)]; exact on_a0 h0 h1 c w
 · rw [ptOf_none (fun e => hx e.1)]; exact on_a1 h0 h1 c w
 · rcases cmp_cases y with ⟨k, hy⟩ | ⟨k, hy⟩ | ⟨k, hy⟩
   · rw [ptOf_none (fun e => hy e.2)]; exact on_b0 h0 h1 c k w
   · rw [ptOf_none (fun e => hy e.2)]; exact on_b1 h0 h1 c k w
   · refine (on_c h0 h1 c k (isW_nn h0) hx (isW_nn h1) hy w).mono ?_
     rintro e w' ⟨rfl, hb⟩; refine ⟨?_, hb⟩; congr 2; by_cases ho : OnC (toF DD) (toF x) (toF y)
     · rw [decide_eq_true ((onC_form _ _ _).2 ho)]
       unfold ptOf; rw [dif_pos ⟨⟨hx, hy⟩, ho⟩]; rfl
     · rw [decide_eq_false (fun e => ho ((onC_form _ _ _).1 e))]
       unfold ptOf; rw [dif_neg (fun e => ho e.2)]; rfl
theorem ptOf_some {x y : Int} {p : Pt} (h : ptOf x y = some p) : (x < PP ∧ y < PP) ∧ p.x = toF x ∧ p.y = toF y := by
 unfold ptOf at h; split at h
 · rename_i hc
   cases h
   exact ⟨hc.1, rfl, rfl⟩
 · cases h
theorem isF_lt {v : Value} {x : Int} (h : IsW v x) (hx : x < PP) : IsF v (toF x) := isF_of (by rw [Int.emod_eq_of_lt (isW_nn h) hx]; exact h)
end Go.Proofs.YtojfcdjgcgnajaaGreat
namespace Go.Proofs.YtojfcdjgcgnajaaGreat
open Go.RowKit
set_option linter.unusedSimpArgs false
set_option linter.unusedVariables false
theorem len_ex (y : Int) (h0 : 0 < y) (h1 : y < 18446744073709551616) : ∃ L : Nat, 1 ≤ L ∧ L ≤ 64 ∧ (∀ w, Calls Tryz.prog 129 #[.int .u64 y] w fun e w' => e = .returned (.int .i64 L) ∧ w' = w) ∧ Hid (2 ^ (L - 1) ≤ y ∧ y < 2 ^ L) := by
 have h : 1 ≤ Lib.bitLen y.toNat ∧ 2 ^ (Lib.bitLen y.toNat - 1) ≤ y.toNat ∧ y.toNat < 2 ^ Lib.bitLen y.toNat := Lib.bitLenAux_bounds 64 y.toNat (by omega) (by omega); have hle : Lib.bitLen y.toNat ≤ 64 := Lib.bitLen_le y.toNat 64 (Nat.le_refl _) (by omega); have hc := Tryz.bits_Len64 y; generalize Lib.bitLen y.toNat = L at *; refine ⟨L, h.1, hle, fun w => hc w (by omega) (by omega), ?_⟩; have e : ∀ k : Nat, (2 : Int) ^ k = ((2 ^ k : Nat) : Int) := fun k => by simp
 show _ ∧ _; rw [e, e]; omega
set_option maxHeartbeats 1000000 in
theorem bitLen_0 (a0 : Int) (ha : L4 a0 0 0 0) (h : a0 ≠ 0) (w : World) :
 Calls Tryz.prog 137 #[W4 a0 0 0 0] w fun e w' => ∃ n : Nat, e = .returned (.int .i64 n) ∧ n ≤ 256 ∧ Hid (num a0 0 0 0 < 2 ^ n ∧ (n = 0 ∨ 2 ^ (n - 1) ≤ num a0 0 0 0)) ∧ Below w.heap.size w w' := by
 have hl : Limb a0 := ha.1; obtain ⟨hl0, hl1⟩ := hl; obtain ⟨L, hL0, hL1, HL, HE⟩ := len_ex a0 (by omega) hl1; have HL : Hid _ := HL; have hu : usedN a0 0 0 0 = 1 := by unfold usedN; simp [h]
 have HU : Hid (∀ w, Calls Tryz.prog 97 #[W4 a0 0 0 0] w fun e w' => e = .returned (.int .i64 1) ∧ ∃ c, w' = w.alloc (.cells c 51)) := fun w => by
  have := used_any a0 0 0 0 w; rw [hu] at this; exact this
 have HN : Hid (num a0 0 0 0 < 2 ^ (0 + L) ∧ (0 + L = 0 ∨ 2 ^ (0 + L - 1) ≤ num a0 0 0 0)) := by
  obtain ⟨h1, h2⟩ := HE.out; obtain ⟨⟨_, _⟩, ⟨_, _⟩, ⟨_, _⟩, ⟨_, _⟩⟩ := ha; have e1 : (2 : Int) ^ (0 + L) = 1 * 2 ^ L := by rw [Int.pow_add]; rfl
  have e2 : (2 : Int) ^ (0 + L - 1) = 1 * 2 ^ (L - 1) := by rw [show 0 + L - 1 = 0 + (L - 1) from by omega, Int.pow_add]; rfl
  show _ ∧ _; rw [e1, e2]; unfold num; exact ⟨by omega, Or.inr (by omega)⟩
 clear HE ha hu h; unfold W4 at *; go_enter Tryz.func137, Tryz.ntmps137; go_wp2_with fail; refine Calls.mono (HU.out _) ?_; rintro e w1 ⟨rfl, c, rfl⟩; go_wp2_with (first | (go_at_call 129; go_must (refine Calls.mono (HL.out _) ?_; rintro e w' ⟨rfl, rfl⟩))); go_ret; exact ⟨0 + L, by first | rfl | go_num | (simp; done), by omega, HN, by go_grown⟩
set_option maxHeartbeats 1000000 in
theorem bitLen_1 (a0 a1 : Int) (ha : L4 a0 a1 0 0) (h : a1 ≠ 0) (w : World) :
 Calls Tryz.prog 137 #[W4 a0 a1 0 0] w fun e w' => ∃ n : Nat, e = .returned (.int .i64 n) ∧ n ≤ 256 ∧ Hid (num a0 a1 0 0 < 2 ^ n ∧ (n = 0 ∨ 2 ^ (n - 1) ≤ num a0 a1 0 0)) ∧ Below w.heap.size w w' := by
 have hl : Limb a1 := ha.2.1; obtain ⟨hl0, hl1⟩ := hl; obtain ⟨L, hL0, hL1, HL, HE⟩ := len_ex a1 (by omega) hl1; have HL : Hid _ := HL; have hu : usedN a0 a1 0 0 = 2 := by unfold usedN; simp [h]
 have HU : Hid (∀ w, Calls Tryz.prog 97 #[W4 a0 a1 0 0] w fun e w' => e = .returned (.int .i64 2) ∧ ∃ c, w' = w.alloc (.cells c 51)) := fun w => by
  have := used_any a0 a1 0 0 w; rw [hu] at this; exact this
 have HN : Hid (num a0 a1 0 0 < 2 ^ (64 + L) ∧ (64 + L = 0 ∨ 2 ^ (64 + L - 1) ≤ num a0 a1 0 0)) := by
  obtain ⟨h1, h2⟩ := HE.out; obtain ⟨⟨_, _⟩, ⟨_, _⟩, ⟨_, _⟩, ⟨_, _⟩⟩ := ha; have e1 : (2 : Int) ^ (64 + L) = 18446744073709551616 * 2 ^ L := by rw [Int.pow_add]; rfl
  have e2 : (2 : Int) ^ (64 + L - 1) = 18446744073709551616 * 2 ^ (L - 1) := by rw [show 64 + L - 1 = 64 + (L - 1) from by omega, Int.pow_add]; rfl
  show _ ∧ _; rw [e1, e2]; unfold num; exact ⟨by omega, Or.inr (by omega)⟩
 clear HE ha hu h; unfold W4 at *; go_enter Tryz.func137, Tryz.ntmps137; go_wp2_with fail; refine Calls.mono (HU.out _) ?_; rintro e w1 ⟨rfl, c, rfl⟩; go_wp2_with (first | (go_at_call 129; go_must (refine Calls.mono (HL.out _) ?_; rintro e w' ⟨rfl, rfl⟩))); go_ret; exact ⟨64 + L, by first | rfl | go_num | (simp; done), by omega, HN, by go_grown⟩
set_option maxHeartbeats 1000000 in
theorem bitLen_2 (a0 a1 a2 : Int) (ha : L4 a0 a1 a2 0) (h : a2 ≠ 0) (w : World) :
 Calls Tryz.prog 137 #[W4 a0 a1 a2 0] w fun e w' => ∃ n : Nat, e = .returned (.int .i64 n) ∧ n ≤ 256 ∧ Hid (num a0 a1 a2 0 < 2 ^ n ∧ (n = 0 ∨ 2 ^ (n - 1) ≤ num a0 a1 a2 0)) ∧ Below w.heap.size w w' := by
 have hl : Limb a2 := ha.2.2.1; obtain ⟨hl0, hl1⟩ := hl; obtain ⟨L, hL0, hL1, HL, HE⟩ := len_ex a2 (by omega) hl1; have HL : Hid _ := HL; have hu : usedN a0 a1 a2 0 = 3 := by unfold usedN; simp [h]
 have HU : Hid (∀ w, Calls Tryz.prog 97 #[W4 a0 a1 a2 0] w fun e w' => e = .returned (.int .i64 3) ∧ ∃ c, w' = w.alloc (.cells c 51)) := fun w => by
  have := used_any a0 a1 a2 0 w; rw [hu] at this; exact this
 have HN : Hid (num a0 a1 a2 0 < 2 ^ (128 + L) ∧ (128 + L = 0 ∨ 2 ^ (128 + L - 1) ≤ num a0 a1 a2 0)) := by
  obtain ⟨h1, h2⟩ := HE.out; obtain ⟨⟨_, _⟩, ⟨_, _⟩, ⟨_, _⟩, ⟨_, _⟩⟩ := ha; have e1 : (2 : Int) ^ (128 + L) = 340282366920938463463374607431768211456 * 2 ^ L := by rw [Int.pow_add]; rfl
  have e2 : (2 : Int) ^ (128 + L - 1) = 340282366920938463463374607431768211456 * 2 ^ (L - 1) := by rw [show 128 + L - 1 = 128 + (L - 1) from by omega, Int.pow_add]; rfl
  show _ ∧ _; rw [e1, e2]; unfold num; exact ⟨by omega, Or.inr (by omega)⟩
 clear HE ha hu h; unfold W4 at *; go_enter Tryz.func137, Tryz.ntmps137; go_wp2_with fail; refine Calls.mono (HU.out _) ?_; rintro e w1 ⟨rfl, c, rfl⟩; go_wp2_with (first | (go_at_call 129; go_must (refine Calls.mono (HL.out _) ?_; rintro e w' ⟨rfl, rfl⟩))); go_ret; exact ⟨128 + L, by first | rfl | go_num | (simp; done), by omega, HN, by go_grown⟩
set_option maxHeartbeats 1000000 in
theorem bitLen_3 (a0 a1 a2 a3 : Int) (ha : L4 a0 a1 a2 a3) (h : a3 ≠ 0) (w : World) :
 Calls Tryz.prog 137 #[W4 a0 a1 a2 a3] w fun e w' => ∃ n : Nat, e = .returned (.int .i64 n) ∧ n ≤ 256 ∧ Hid (num a0 a1 a2 a3 < 2 ^ n ∧ (n = 0 ∨ 2 ^ (n - 1) ≤ num a0 a1 a2 a3)) ∧ Below w.heap.size w w' := by
 have hl : Limb a3 := ha.2.2.2; obtain ⟨hl0, hl1⟩ := hl; obtain ⟨L, hL0, hL1, HL, HE⟩ := len_ex a3 (by omega) hl1; have HL : Hid _ := HL; have hu : usedN a0 a1 a2 a3 = 4 := by unfold usedN; simp [h]
 have HU : Hid (∀ w, Calls Tryz.prog 97 #[W4 a0 a1 a2 a3] w fun e w' => e = .returned (.int .i64 4) ∧ ∃ c, w' = w.alloc (.cells c 51)) := fun w => by
  have := used_any a0 a1 a2 a3 w; rw [hu] at this; exact this
 have HN : Hid (num a0 a1 a2 a3 < 2 ^ (192 + L) ∧ (192 + L = 0 ∨ 2 ^ (192 + L - 1) ≤ num a0 a1 a2 a3)) := by
  obtain ⟨h1, h2⟩ := HE.out; obtain ⟨⟨_, _⟩, ⟨_, _⟩, ⟨_, _⟩, ⟨_, _⟩⟩ := ha; have e1 : (2 : Int) ^ (192 + L) = 6277101735386680763835789423207666416102355444464034512896 * 2 ^ L := by rw [Int.pow_add]; rfl
  have e2 : (2 : Int) ^ (192 + L - 1) = 6277101735386680763835789423207666416102355444464034512896 * 2 ^ (L - 1) := by rw [show 192 + L - 1 = 192 + (L - 1) from by omega, Int.pow_add]; rfl
  show _ ∧ _; rw [e1, e2]; unfold num; exact ⟨by omega, Or.inr (by omega)⟩
 clear HE ha hu h; unfold W4 at *; go_enter Tryz.func137, Tryz.ntmps137; go_wp2_with fail; refine Calls.mono (HU.out _) ?_; rintro e w1 ⟨rfl, c, rfl⟩; go_wp2_with (first | (go_at_call 129; go_must (refine Calls.mono (HL.out _) ?_; rintro e w' ⟨rfl, rfl⟩))); go_ret; exact ⟨192 + L, by first | rfl | go_num | (simp; done), by omega, HN, by go_grown⟩
set_option maxHeartbeats 1000000 in
theorem bitLen_none (w : World) :
 Calls Tryz.prog 137 #[W4 0 0 0 0] w fun e w' => e = .returned (.int .i64 0) ∧ Below w.heap.size w w' := by
 have HU : Hid (∀ w, Calls Tryz.prog 97 #[W4 0 0 0 0] w fun e w' => e = .returned (.int .i64 0) ∧ ∃ c, w' = w.alloc (.cells c 51)) := fun w => used_any 0 0 0 0 w
 unfold W4 at *; go_enter Tryz.func137, Tryz.ntmps137; go_wp2_with fail; refine Calls.mono (HU.out _) ?_; rintro e w1 ⟨rfl, c, rfl⟩; go_wp2; go_ret; exact ⟨rfl, by go_grown⟩
theorem bitLen_any (a0 a1 a2 a3 : Int) (ha : L4 a0 a1 a2 a3) (w : World) :
 Calls Tryz.prog 137 #[W4 a0 a1 a2 a3] w fun e w' => ∃ n : Nat, e = .returned (.int .i64 n) ∧ n ≤ 256 ∧ Hid (num a0 a1 a2 a3 < 2 ^ n ∧ (n = 0 ∨ 2 ^ (n - 1) ≤ num a0 a1 a2 a3)) ∧ Below w.heap.size w w' := by
 by_cases h3 : a3 = 0
 · subst h3
   by_cases h2 : a2 = 0
   · subst h2
     by_cases h1 : a1 = 0
     · subst h1
       by_cases h0 : a0 = 0
       · subst h0
         exact (bitLen_none w).mono fun e w' ⟨he, hw⟩ => ⟨0, he, by omega, ⟨by decide, Or.inl rfl⟩, hw⟩
       · exact bitLen_0 a0 ha h0 w
     · exact bitLen_1 a0 a1 ha h1 w
   · exact bitLen_2 a0 a1 a2 ha h2 w
 · exact bitLen_3 a0 a1 a2 a3 ha h3 w
set_option maxHeartbeats 1000000 in
theorem or_any (a0 a1 a2 a3 b0 b1 b2 b3 : Int) (w : World) :
 Calls Tryz.prog 125 #[W4 a0 a1 a2 a3, W4 b0 b1 b2 b3] w fun e w' => e = .returned (W4 (bits .or .u64 a0 b0) (bits .or .u64 a1 b1) (bits .or .u64 a2 b2) (bits .or .u64 a3 b3)) ∧ Below w.heap.size w w' := by
 unfold W4; go_enter Tryz.func125, Tryz.ntmps125; go_wp2; refine wp_loop_rounds 5 ?_; iterate 4
  rw [rounds_succ]; go_wp2; try go_region
  go_wp2
 rw [rounds_succ]; go_wp2; go_returns; exact ⟨rfl, by go_grown⟩
end Go.Proofs.YtojfcdjgcgnajaaGreat
namespace Go.Proofs.YtojfcdjgcgnajaaGreat
open Go.RowKit
set_option linter.unusedSimpArgs false
set_option linter.unusedVariables false
set_option maxHeartbeats 1000000 in
theorem ebit_any (a0 a1 a2 a3 : Int) (ha : L4 a0 a1 a2 a3) (j : Nat) (hj : j < 256) (w : World) :
 Calls Tryz.prog 126 #[W4 a0 a1 a2 a3, .int .i64 (j : Int)] w fun e w' => e = .returned (.bool (decide ((num a0 a1 a2 a3 / 2 ^ j) % 2 = 1))) ∧ Below w.heap.size w w' := by
 have hc := fcell4 w a0 a1 a2 a3 (j / 64) (by omega); have hL := limbOf_limb ha (j / 64); have hd := fdiv_limb hL (j % 64); have hand := fand_1 _ hd.1 hd.2; rw [← fbit_num a0 a1 a2 a3 ha j hj] at hand; generalize (num a0 a1 a2 a3 / 2 ^ j) % 2 = B at hand ⊢; generalize limbOf a0 a1 a2 a3 (j / 64) = x at *; unfold W4; clear ha hL hd; go_enter Tryz.func126, Tryz.ntmps126; go_wp2; go_ret; refine ⟨?_, by go_grown⟩; congr 2
theorem g_ebit {v : Value} {x : Int} (h : IsW v x) (j : Nat) (hj : j < 256) (w : World) : Calls Tryz.prog 126 #[v, .int .i64 (j : Int)] w fun e w' => e = .returned (.bool (decide ((x / 2 ^ j) % 2 = 1))) ∧ Below w.heap.size w w' := by
 obtain ⟨a0, a1, a2, a3, rfl, la, rfl⟩ := h; exact ebit_any a0 a1 a2 a3 la j hj w
set_option maxHeartbeats 1000000 in
theorem g_bits {va vb : Value} {x y : Int} (ha : IsW va x) (hb : IsW vb y) (w : World) : Calls Tryz.prog 91 #[va, vb] w fun e w' => e = .returned (.func (.func 124) #[] #[.pointer (some ⟨w.heap.size, 0, none⟩), .pointer (some ⟨w.heap.size + 1, 0, none⟩)]) ∧ VarW w' w.heap.size va ∧ VarW w' (w.heap.size + 1) vb ∧ Below w.heap.size w w' := by
 have HA : Hid (IsW va x) := ha; have HB : Hid (IsW vb y) := hb; obtain ⟨a0, a1, a2, a3, rfl, la, _⟩ := ha; obtain ⟨b0, b1, b2, b3, rfl, lb, _⟩ := hb; have V0 : Hid (VarW ((w.alloc (.cells (C4 a0 a1 a2 a3) 51)).alloc (.cells (C4 b0 b1 b2 b3) 51)) w.heap.size (W4 a0 a1 a2 a3) ∧ VarW ((w.alloc (.cells (C4 a0 a1 a2 a3) 51)).alloc (.cells (C4 b0 b1 b2 b3) 51)) (w.heap.size + 1) (W4 b0 b1 b2 b3)) :=
  ⟨VarW.mk la (heap_old _ _ _ _ (heap_alloc_new _ _)), VarW.mk lb (heapAt _ _ _ (by simp))⟩
 clear la lb; unfold W4; go_enter Tryz.func91, Tryz.ntmps91; go_wp2; go_ret; exact ⟨rfl, V0.out.1, V0.out.2, by go_grown⟩
end Go.Proofs.YtojfcdjgcgnajaaGreat
namespace Go.Proofs.YtojfcdjgcgnajaaGreat
open Go.RowKit
set_option linter.unusedSimpArgs false
set_option linter.unusedVariables false
theorem or_limb {a b : Int} (ha : Limb a) (hb : Limb b) : Limb (bits .or .u64 a b) ∧ a ≤ bits .or .u64 a b ∧ b ≤ bits .or .u64 a b := by
 obtain ⟨a0, a1⟩ := ha; obtain ⟨b0, b1⟩ := hb; rw [u64_or a b a0 a1 b0 b1]; have h1 : a.toNat ≤ a.toNat ||| b.toNat := Nat.left_le_or; have h2 : b.toNat ≤ a.toNat ||| b.toNat := Nat.right_le_or; have h3 : a.toNat ||| b.toNat < 2 ^ 64 := Nat.or_lt_two_pow (by omega) (by omega); generalize a.toNat ||| b.toNat = n at *; exact ⟨⟨by omega, by omega⟩, by omega, by omega⟩
theorem g_or {va vb : Value} {x y : Int} (ha : IsW va x) (hb : IsW vb y) (w : World) : Calls Tryz.prog 125 #[va, vb] w fun e w' => ∃ v z, e = .returned v ∧ IsW v z ∧ x ≤ z ∧ y ≤ z ∧ Below w.heap.size w w' := by
 obtain ⟨a0, a1, a2, a3, rfl, la, rfl⟩ := ha; obtain ⟨b0, b1, b2, b3, rfl, lb, rfl⟩ := hb; refine (or_any a0 a1 a2 a3 b0 b1 b2 b3 w).mono ?_; rintro e w' ⟨rfl, hB⟩; have h0 := or_limb la.1 lb.1; have h1 := or_limb la.2.1 lb.2.1; have h2 := or_limb la.2.2.1 lb.2.2.1; have h3 := or_limb la.2.2.2 lb.2.2.2; refine ⟨_, _, rfl, IsW.mk ⟨h0.1, h1.1, h2.1, h3.1⟩, ?_, ?_, hB⟩
 · unfold num; omega
 · unfold num; omega
set_option maxHeartbeats 1000000 in
theorem g_len {v : Value} {x : Int} (h : IsW v x) (w : World) : Calls Tryz.prog 108 #[v] w fun e w' => ∃ n : Nat, e = .returned (.int .i64 n) ∧ n ≤ 32 ∧ x < 2 ^ (8 * n) ∧ Below w.heap.size w w' := by
 obtain ⟨a0, a1, a2, a3, rfl, la, rfl⟩ := h; have HB : Hid _ := bitLen_any a0 a1 a2 a3 la; have hA : Hid (Below w.heap.size w (w.alloc (.cells #[.int .u64 a0, .int .u64 a1, .int .u64 a2, .int .u64 a3] 51))) := by
  show Below _ _ _; go_grown
 unfold W4 at *; go_enter Tryz.func108, Tryz.ntmps108; go_wp2_with fail; refine Calls.mono (HB.out _) ?_; rintro e w1 ⟨n, rfl, hn, hx, b1⟩; have hd : ((n : Int) + 7).tdiv 8 = ((n + 7) / 8 : Nat) := by rw [Int.tdiv_eq_ediv_of_nonneg (by omega)]; omega
 go_wp2; go_ret
 refine ⟨(n + 7) / 8, by first | rfl | go_num | (simp; done), by omega, ?_, hA.out.trans (b1.mono hA.out.size)⟩; have h1 := hx.out.1; have h2 : (2 : Int) ^ n ≤ 2 ^ (8 * ((n + 7) / 8)) := by
  have := Nat.pow_le_pow_right (n := 2) (by decide) (show n ≤ 8 * ((n + 7) / 8) by omega)
  exact_mod_cast this
 omega
end Go.Proofs.YtojfcdjgcgnajaaGreat
namespace Go.Proofs.YtojfcdjgcgnajaaGreat
open Go.RowKit Go.Shelf
set_option linter.unusedSimpArgs false
set_option linter.unusedVariables false
def offEnd (R : World → Prop) : Exit → Act → World → Prop
 | .normal, _, W => R W
 | _, _, _ => False
theorem range_with {P : Program} {n : Nat} {g : Operand} {ps : Array Tmp} {assign body : Code} {Q : Exit → Act → World → Prop} {a : Act} {w : World} {gf : Nat} {lb : Array Value}
 (hg : a.eval g = .func (.func gf) #[] lb) (eg : ∀ args w, (callFunc gf args).run P w = .ok (.enter gf args) w)
 (h : ∀ (r : Loop) (W1 : World), r.state = .ready → r.pending = none → r.tmps = a.tmps → r.params = ps → r.assign = assign → r.body = body → W1 = (w.alloc (.deferred (some []))).alloc (.loop r) →
   CallsIn Fence.wide (n - 1) P gf (#[.func (.yield (w.heap.size + 1)) #[] #[]] ++ lb) W1 fun e W' => (∃ v, e = .returned v) ∧ W'.heap[w.heap.size + 1]? = some (.loop r) ∧
    Q .normal { a with defers := { target := .collected w.heap.size, args := #[] } :: a.defers } (W'.putObj (w.heap.size + 1) (.loop { r with state := .exhausted }))) :
 (Code.rangeFunc g ps assign body).wpIn Fence.wide n P Q a w := by
 refine wpIn_rangeFunc ?_; intro fn _; obtain ⟨r, hr⟩ : ∃ r : Loop, r = { state := .ready, pending := none, fn, tmps := a.tmps, params := ps, assign, body, defers := w.heap.size } := ⟨_, rfl⟩
 refine ⟨w.heap.size + 1, [{ target := .collected w.heap.size, args := #[] }], (w.alloc (.deferred (some []))).alloc (.loop r), { target := .fn (.func gf) lb, args := #[.func (.yield (w.heap.size + 1)) #[] #[]] }, (w.alloc (.deferred (some []))).alloc (.loop r), gf,
  #[.func (.yield (w.heap.size + 1)) #[] #[]] ++ lb, (w.alloc (.deferred (some []))).alloc (.loop r), ?_, ?_, fun _ _ => trivial, ?_, (fun h => by simp [Fence.wide] at h), ?_⟩
 · rw [hr]; exact run_enterLoop_outer _ _ _ _ _
 · simp only [resolve, hg]
   simp [go_sem]
 · simp [invoke, go_sem, eg]
 · refine (h r _ (by rw [hr]) (by rw [hr]) (by rw [hr]) (by rw [hr]) (by rw [hr]) (by rw [hr]) rfl).mono ?_
   rintro e W' ⟨⟨v, rfl⟩, hl, hq⟩; have hpe : r.pending = none := by rw [hr]
   have := run_endLoop (P := P) hl (by rw [hr]; simp); rw [hpe] at this hq; exact ⟨none, _, this, hq⟩
theorem round_with {P : Program} {m l : Nat} {args : Array Value} {W : World} {r : Loop} {R : World → Prop} (hl : W.heap[l]? = some (.loop r)) (hst : r.state = .ready) (hpe : r.pending = none) (hs : args.size = r.params.size)
 (h : ∀ rb : Loop, Hid (rb = { r with state := .busy }) → r.assign.wpIn (Fence.wide.inRound l) m P (Exit.then (fun a1 W1 => W1.heap[l]? = some (.loop r) ∧
   r.body.wpIn (Fence.wide.inRound l) m P (offEnd fun W3 => W3.heap[l]? = some (.loop rb) ∧ R (W3.putObj l (.loop r))) a1 (W1.putObj l (.loop rb))) (fun _ _ _ => False))
   { tmps := (r.params.zip args).foldl (fun t (p, v) => t.setIfInBounds p v) r.tmps, defers := [] } W) :
 YieldAt Fence.wide m P l args W fun e W' => e = .returned (.bool true) ∧ R W' := by
 refine ⟨r.fn, _, r.assign, r.body, run_yield hl hs, roundIn_of_wpIn trivial (wpIn_mono (h _ rfl) ?_)⟩; rintro e a1 W1 hp; cases e with
 | normal =>
   obtain ⟨hl1, hb⟩ := hp; refine ⟨_, run_beginRound hl1 hst, wpIn_mono hb ?_⟩; rintro e a3 W3 hq; cases e with
   | normal =>
     obtain ⟨hl3, hR⟩ := hq; refine ⟨_, _, run_endRound none hl3, rfl, ?_⟩; have e1 : ({ ({ r with state := .busy } : Loop) with state := if (none : Option Code).isNone then .ready else .done, pending := none } : Loop) = r := by
      cases r; simp only at hst hpe; subst hst hpe; rfl
     rw [e1]; exact hR
   | ret => exact hq.elim
   | exit id => exact hq.elim
   | goto t => exact hq.elim
   | panic ch => exact hq.elim
   | outgrown => exact hq.elim
 | ret => exact hp.elim
 | exit id => exact hp.elim
 | goto t => exact hp.elim
 | panic ch => exact hp.elim
 | outgrown => exact hp.elim
end Go.Proofs.YtojfcdjgcgnajaaGreat
namespace Go.Proofs.YtojfcdjgcgnajaaGreat
open Go.RowKit Go.Shelf
set_option linter.unusedSimpArgs false
set_option linter.unusedVariables false
theorem wpAnyIn_inv {P : Program} {F : Fence} {m : Nat} {md : Region.Mode} {ops : Array Oper} {Q : Exit → Act → World → Prop} (n : Nat) (hn : ops.size = n) (I : Array Bool → Act → World → Prop)
 (hend : ∀ l a w, l.size = n → I l a w → Region.ready md ops l = [] → Q .normal a w)
 (hstep : ∀ i l a w, l.size = n → I l a w → i ∈ Region.ready md ops l → wpOpIn F m P ops Q i (I (l.setIfInBounds i true)) a w) :
 ∀ (fuel : Nat) (l : Array Bool) (a : Act) (w : World), l.size = n → left n l ≤ fuel → I l a w → wpAnyIn F m P md ops Q fuel l a w
 | 0, l, a, w, hs, hl, hI => by
   have hr : Region.ready md ops l = [] := by
    apply List.eq_nil_iff_forall_not_mem.2
    intro i hi; obtain ⟨h1, h2, _⟩ := ready_mem hi; have := left_set hs (by omega) h2; omega
   exact ⟨hr, hend l a w hs hI hr⟩
 | fuel + 1, l, a, w, hs, hl, hI => by
   refine ⟨fun hr => hend l a w hs hI hr, fun i hi => ?_⟩; obtain ⟨h1, h2, _⟩ := ready_mem hi; have hlt := left_set hs (by omega) h2; exact wpOpIn_mono (fun a' w' hI' => wpAnyIn_inv n hn I hend hstep fuel _ a' w' (by simp [hs]) (by omega) hI') (hstep i l a w hs hI hi)
theorem wpIn_region_inv {P : Program} {F : Fence} {m : Nat} {ops : Array Oper} {Q : Exit → Act → World → Prop} {id : Nat} {a : Act} {w : World} (hm : P.follows .mixedOrders = true) (n : Nat) (hn : ops.size = n) (I : Array Bool → Act → World → Prop)
 (h0 : I (Array.replicate n false) a w.drew)
 (hend : ∀ l a w, l.size = n → I l a w → Region.ready .any ops l = [] → Q .normal a w)
 (hstep : ∀ i l a w, l.size = n → I l a w → i ∈ Region.ready .any ops l → wpOpIn F m P ops Q i (I (l.setIfInBounds i true)) a w) : (Code.region id ops true).wpIn F m P Q a w := by
 refine wpIn_region_any hm ?_; rw [hn]; exact wpAnyIn_inv n hn I hend hstep n _ _ _ (by simp) (left_le n _) h0
theorem wpOpIn_of_wp {P : Program} {m : Nat} {ops : Array Oper} {Q : Exit → Act → World → Prop} {i : Nat} {o : Oper} {a : Act} {w : World} {K : Act → World → Prop} (ho : ops[i]? = some o) (hw : Region.wanted o (yielded ops a.tmps) = true) (hd : ∀ c, o.op ≠ .defer c)
 (h : o.wp P a w K Q) : wpOpIn Fence.wide m P ops Q i K a w := by
 unfold wpOpIn; rw [ho]; simp only; rw [if_pos hw]; refine ⟨fun _ _ => trivial, ?_⟩; rw [Oper.semAt_plain _ _ _ hd]; unfold Oper.wp at h; generalize (execOp a.eval o).run P w = r at h ⊢; have hdep : Fence.wide.depth.isSome = true → 1 ≤ m := fun h => by simp [Fence.wide] at h
 rcases r with ⟨nx, w'⟩ | ⟨hl, w'⟩
 · cases nx with
   | value v => exact h
   | skip => exact h
   | defer d => exact h
   | enter f args => exact ⟨hdep, callsIn_wide.2 h⟩
   | row row args =>
     refine ⟨hdep, ?_⟩; intro c cs _; obtain ⟨v, w'', hr, hs⟩ := h c cs; exact ⟨v, w'', hr, stepsIn_wide.2 hs⟩
   | _ => exact h.elim
 · cases hl <;> first | exact h | exact h.elim
theorem wpOpIn_yield {P : Program} {m l : Nat} {args : Array Value} {R : Ending → World → Prop} {ops : Array Oper} {Q : Exit → Act → World → Prop} {i : Nat} {o : Oper} {a : Act} {w : World} {K : Act → World → Prop} (ho : ops[i]? = some o) (hw : Region.wanted o (yielded ops a.tmps) = true) (hd : ∀ c, o.op ≠ .defer c)
 (hx : (execOp a.eval o).run P w = (Instr.yield l args).run P w) (hY : YieldAt Fence.wide (m - 1) P l args w R) (h : ∀ e w', R e w' → ∃ v, e = .returned v ∧ K (a.put o.dst v) w') : wpOpIn Fence.wide m P ops Q i K a w := by
 unfold wpOpIn; rw [ho]; simp only; rw [if_pos hw]; refine ⟨fun _ _ => trivial, ?_⟩; rw [Oper.semAt_plain _ _ _ hd, hx]; obtain ⟨fn, tmps, assign, body, hy, hR⟩ := hY; rw [hy, Oper.uponIn_round]; refine ⟨fun h => by simp [Fence.wide] at h, hR.mono ?_⟩; intro e w' hr; obtain ⟨v, rfl, hk⟩ := h e w' hr; exact hk
end Go.Proofs.YtojfcdjgcgnajaaGreat
