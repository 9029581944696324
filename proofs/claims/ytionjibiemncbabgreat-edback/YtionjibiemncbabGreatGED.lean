/- EA, EC, EJ, ED -/
import Derived.Test.YtionjibiemncbabGreatE3
import Derived.Test.YtionjibiemncbabGreatE4
import Derived.Test.YtionjibiemncbabGreatGE6
import Derived.Test.YtionjibiemncbabGreatE7
import Derived.Test.YtionjibiemncbabGreatGE0
import Derived.Test.YtionjibiemncbabGreatE9
import Derived.Test.YtionjibiemncbabGreatGM3
set_option linter.unusedSimpArgs false
set_option linter.unusedVariables false
namespace Go.Proofs.YtionjibiemncbabGreat
open Go.RowKit
theorem wpList_load_want {ops : Array Oper} {rest : List Oper} {o : Oper} {a : Act} {w : World} {Q : Exit → Act → World → Prop} (hw : Region.wanted o (yielded ops a.tmps) = true) (ty : TypeId) (x : Operand) (ho : o.op = .load ty x)
    (g : Addr) (hx : a.eval x = .pointer (some g)) {v : Value} (hrun : (loadVar ty g).run Tryz.prog w = .ok v w) (h : wpList Tryz.prog ops Q rest (a.put o.dst v) w) : wpList Tryz.prog ops Q (o :: rest) a w :=
  wpList_step fun K hK => step_load_run hw ty x ho g hx hrun (hK _ _ h)
end Go.Proofs.YtionjibiemncbabGreat
namespace Go.Proofs.YtionjibiemncbabGreat
structure Pt where
  x : K
  y : K
  on : OnC (toF DD) x y
theorem Pt.same {p q : Pt} (hx : p.x = q.x) (hy : p.y = q.y) : p = q := by
  cases p; cases q; simp only at hx hy; subst hx hy; rfl
def sx (p q : Pt) : K := nx p.x p.y q.x q.y * invK (dp (toF DD) p.x p.y q.x q.y)
def sy (p q : Pt) : K := ny p.x p.y q.x q.y * invK (dm (toF DD) p.x p.y q.x q.y)
theorem quot (a : K) {b : K} (h : b ≠ 0) : a * invK b * b = a := by
  have := invK_mul h
  generalize invK b = c at *
  grind
theorem isSum_s (p q : Pt) : IsSum (toF DD) p.x p.y q.x q.y (sx p q) (sy p q) := ⟨quot _ (dp_ne edw p.on q.on), quot _ (dm_ne edw p.on q.on)⟩
def Pt.add (p q : Pt) : Pt := ⟨sx p q, sy p q, sum_on edw p.on q.on (isSum_s p q)⟩
theorem add_is {p q r : Pt} (h : IsSum (toF DD) p.x p.y q.x q.y r.x r.y) : p.add q = r :=
  Pt.same (sum_unique edw p.on q.on (isSum_s p q) h).1 (sum_unique edw p.on q.on (isSum_s p q) h).2
def Pt.zero : Pt := ⟨0, 1, on_none⟩
def Pt.neg (p : Pt) : Pt := ⟨-p.x, p.y, on_neg p.on⟩
theorem add_comm (p q : Pt) : p.add q = q.add p := add_is (sum_comm (isSum_s q p))
theorem add_zero (p : Pt) : p.add Pt.zero = p := add_is sum_none
theorem zero_add (p : Pt) : Pt.zero.add p = p := by rw [add_comm, add_zero]
theorem add_neg (p : Pt) : p.add p.neg = Pt.zero := add_is (sum_away p.on)
theorem add_assoc (p q r : Pt) : (p.add q).add r = p.add (q.add r) := by
  have h := sum_assoc edw p.on q.on r.on (isSum_s p q) (isSum_s q r) (isSum_s (p.add q) r) (isSum_s p (q.add r))
  exact Pt.same h.1 h.2
theorem add_swap (a b c d : Pt) : (a.add b).add (c.add d) = (a.add c).add (b.add d) := by
  rw [add_assoc, add_assoc, ← add_assoc b c d, add_comm b c, add_assoc c b d]
def Pt.mul (n : Nat) (p : Pt) : Pt := Nat.rec Pt.zero (fun _ s => s.add p) n
theorem mul_nought (p : Pt) : Pt.mul 0 p = Pt.zero := rfl
theorem mul_next (n : Nat) (p : Pt) : Pt.mul (n + 1) p = (Pt.mul n p).add p := rfl
theorem mul_add (a : Nat) (p : Pt) (b : Nat) : Pt.mul (a + b) p = (Pt.mul a p).add (Pt.mul b p) := by
  induction b with
  | zero => rw [mul_nought, add_zero, Nat.add_zero]
  | succ b ih => rw [← Nat.add_assoc, mul_next, ih, add_assoc, ← mul_next]
theorem mul_zero (n : Nat) : Pt.mul n Pt.zero = Pt.zero := by
  induction n with
  | zero => rw [mul_nought]
  | succ n ih => rw [mul_next, ih, add_zero]
theorem mul_mul (a : Nat) (p : Pt) (b : Nat) : Pt.mul (b * a) p = Pt.mul b (Pt.mul a p) := by
  induction b with
  | zero => rw [Nat.zero_mul, mul_nought, mul_nought]
  | succ b ih => rw [Nat.succ_mul, mul_add, ih, ← mul_next]
theorem mul_one (p : Pt) : Pt.mul 1 p = p := by rw [mul_next, mul_nought, zero_add]
def addIf (b : Bool) (s p : Pt) : Pt := if b then s.add p else s
theorem addIf_mul (a : Nat) (b : Bool) (p t : Pt) : addIf b ((Pt.mul a p).add t) p = (Pt.mul (a + b.toNat) p).add t := by
  cases b
  · rfl
  · show ((Pt.mul a p).add t).add p = (Pt.mul (a + 1) p).add t
    rw [add_assoc, add_comm t p, ← add_assoc, ← mul_next]
theorem both_round (a c : Nat) (b1 b2 : Bool) (p q : Pt) :
    addIf b2 (addIf b1 (((Pt.mul a p).add (Pt.mul c q)).add ((Pt.mul a p).add (Pt.mul c q))) p) q = (Pt.mul (2 * a + b1.toNat) p).add (Pt.mul (2 * c + b2.toNat) q) := by
  rw [add_swap, ← mul_add, ← mul_add, addIf_mul, add_comm, ← Nat.two_mul, ← Nat.two_mul, add_comm (Pt.mul (2 * a + b1.toNat) p), add_comm (Pt.mul (2 * c) q), add_comm (Pt.mul (2 * a + b1.toNat) p), addIf_mul]
def RepP (X Y Z T : K) (s : Pt) : Prop := Rep X Y Z T s.x s.y
theorem repP_twice {X Y Z T : K} {s : Pt} (h : RepP X Y Z T s) :
    RepP (((X + Y) * (X + Y) - (Y * Y + X * X)) * ((Z * Z + Z * Z) - (Y * Y - X * X))) ((Y * Y + X * X) * (Y * Y - X * X)) ((Y * Y - X * X) * ((Z * Z + Z * Z) - (Y * Y - X * X))) (((X + Y) * (X + Y) - (Y * Y + X * X)) * (Y * Y + X * X)) (s.add s) :=
  rep_twice edw s.on h (isSum_s s s)
theorem repP_plus {X Y Z T : K} {s p : Pt} (h : RepP X Y Z T s) :
    RepP (((Y + X) * (p.y + p.x) - (Y - X) * (p.y - p.x)) * ((Z + Z) - T * ((toF DD + toF DD) * (p.x * p.y)))) (((Y + X) * (p.y + p.x) + (Y - X) * (p.y - p.x)) * ((Z + Z) + T * ((toF DD + toF DD) * (p.x * p.y)))) (((Z + Z) + T * ((toF DD + toF DD) * (p.x * p.y))) * ((Z + Z) - T * ((toF DD + toF DD) * (p.x * p.y)))) (((Y + X) * (p.y + p.x) - (Y - X) * (p.y - p.x)) * ((Y + X) * (p.y + p.x) + (Y - X) * (p.y - p.x))) (s.add p) :=
  rep_plus edw s.on p.on h (isSum_s s p)
theorem repP_spread (p : Pt) : RepP p.x p.y 1 (p.x * p.y) p := rep_one edw p.x p.y
theorem repP_flat {X Y Z T : K} {s : Pt} (h : RepP X Y Z T s) : X * invK Z = s.x ∧ Y * invK Z = s.y := by
  obtain ⟨hz, rfl, rfl, _⟩ := h
  have := invK_mul hz
  generalize invK Z = c at *
  constructor <;> grind
end Go.Proofs.YtionjibiemncbabGreat
namespace Go.Proofs.YtionjibiemncbabGreat
open Go.RowKit
def ptOf (x y : Int) : Option Pt := if h : (x < PP ∧ y < PP) ∧ toF y * toF y - toF x * toF x = 1 + toF DD * (toF x * toF x) * (toF y * toF y) then some ⟨toF x, toF y, h.2⟩ else none
theorem isW_nn {v : Value} {x : Int} (h : IsW v x) : 0 ≤ x := by
  obtain ⟨a0, a1, a2, a3, _, ⟨⟨h0, _⟩, ⟨h1, _⟩, ⟨h2, _⟩, ⟨h3, _⟩⟩, rfl⟩ := h
  unfold num; omega
theorem cmp_cases (x : Int) : cmpN x PP = 0 ∧ ¬ x < PP ∨ cmpN x PP = 1 ∧ ¬ x < PP ∨ cmpN x PP = -1 ∧ x < PP := by
  rcases Int.lt_trichotomy x PP with h | h | h
  · exact Or.inr (Or.inr ⟨cmpN_lt h, h⟩)
  · exact Or.inl ⟨cmpN_eq h, by omega⟩
  · exact Or.inr (Or.inl ⟨cmpN_gt h, by omega⟩)
theorem onC_form (a b d : K) : (b * b - a * a = 1 + d * (a * a * (b * b))) ↔ OnC d a b := by
  unfold OnC
  constructor <;> intro h <;> grind
theorem ptOf_none {x y : Int} (h : ¬ (x < PP ∧ y < PP)) : ptOf x y = none := dif_neg (fun e => h e.1)
theorem g_on {p0 p1 : Value} {x y : Int} (h0 : IsW p0 x) (h1 : IsW p1 y) (w : World) : Calls Tryz.prog 5 #[.agg (catW [p0, p1])] w fun e w' => e = .returned (.bool (ptOf x y).isSome) ∧ Below w.heap.size w w' := by
  rcases cmp_cases x with ⟨c, hx⟩ | ⟨c, hx⟩ | ⟨c, hx⟩
  · rw [ptOf_none (fun e => hx e.1)]; exact on_a0 h0 h1 c w
  · rw [ptOf_none (fun e => hx e.1)]; exact on_a1 h0 h1 c w
  · rcases cmp_cases y with ⟨k, hy⟩ | ⟨k, hy⟩ | ⟨k, hy⟩
    · rw [ptOf_none (fun e => hy e.2)]; exact on_b0 h0 h1 c k w
    · rw [ptOf_none (fun e => hy e.2)]; exact on_b1 h0 h1 c k w
    · refine (on_c h0 h1 c k (isW_nn h0) hx (isW_nn h1) hy w).mono ?_
      rintro e w' ⟨rfl, hb⟩
      refine ⟨?_, hb⟩
      congr 2
      by_cases ho : OnC (toF DD) (toF x) (toF y)
      · rw [decide_eq_true ((onC_form _ _ _).2 ho)]
        unfold ptOf
        rw [dif_pos ⟨⟨hx, hy⟩, ho⟩]; rfl
      · rw [decide_eq_false (fun e => ho ((onC_form _ _ _).1 e))]
        unfold ptOf
        rw [dif_neg (fun e => ho e.2)]; rfl
theorem ptOf_some {x y : Int} {p : Pt} (h : ptOf x y = some p) : (x < PP ∧ y < PP) ∧ p.x = toF x ∧ p.y = toF y := by
  unfold ptOf at h
  split at h
  · rename_i hc
    cases h
    exact ⟨hc.1, rfl, rfl⟩
  · cases h
theorem isF_lt {v : Value} {x : Int} (h : IsW v x) (hx : x < PP) : IsF v (toF x) := isF_of (by rw [Int.emod_eq_of_lt (isW_nn h) hx]; exact h)
end Go.Proofs.YtionjibiemncbabGreat
namespace Go.Proofs.YtionjibiemncbabGreat
open Go.RowKit
theorem len_ex (y : Int) (h0 : 0 < y) (h1 : y < 18446744073709551616) : ∃ L : Nat, 1 ≤ L ∧ L ≤ 64 ∧ (∀ w, Calls Tryz.prog 93 #[.int .u64 y] w fun e w' => e = .returned (.int .i64 L) ∧ w' = w) ∧ Hid (2 ^ (L - 1) ≤ y ∧ y < 2 ^ L) := by
  have h : 1 ≤ Lib.bitLen y.toNat ∧ 2 ^ (Lib.bitLen y.toNat - 1) ≤ y.toNat ∧ y.toNat < 2 ^ Lib.bitLen y.toNat := Lib.bitLenAux_bounds 64 y.toNat (by omega) (by omega)
  have hle : Lib.bitLen y.toNat ≤ 64 := Lib.bitLen_le y.toNat 64 (Nat.le_refl _) (by omega)
  have hc := Tryz.bits_Len64 y
  generalize Lib.bitLen y.toNat = L at *
  refine ⟨L, h.1, hle, fun w => hc w (by omega) (by omega), ?_⟩
  have e : ∀ k : Nat, (2 : Int) ^ k = ((2 ^ k : Nat) : Int) := fun k => by simp
  show _ ∧ _
  rw [e, e]
  omega
set_option maxHeartbeats 1000000 in
theorem bitLen_0 (a0 : Int) (ha : L4 a0 0 0 0) (h : a0 ≠ 0) (w : World) :
    Calls Tryz.prog 92 #[W4 a0 0 0 0] w fun e w' => ∃ n : Nat, e = .returned (.int .i64 n) ∧ n ≤ 256 ∧ Hid (num a0 0 0 0 < 2 ^ n ∧ (n = 0 ∨ 2 ^ (n - 1) ≤ num a0 0 0 0)) ∧ Below w.heap.size w w' := by
  have hl : Limb a0 := ha.1
  obtain ⟨hl0, hl1⟩ := hl
  obtain ⟨L, hL0, hL1, HL, HE⟩ := len_ex a0 (by omega) hl1
  have HL : Hid _ := HL
  have hu : usedN a0 0 0 0 = 1 := by unfold usedN; simp [h]
  have HU : Hid (∀ w, Calls Tryz.prog 80 #[W4 a0 0 0 0] w fun e w' => e = .returned (.int .i64 1) ∧ ∃ c, w' = w.alloc (.cells c 24)) := fun w => by
    have := used_any a0 0 0 0 w
    rw [hu] at this; exact this
  have HN : Hid (num a0 0 0 0 < 2 ^ (0 + L) ∧ (0 + L = 0 ∨ 2 ^ (0 + L - 1) ≤ num a0 0 0 0)) := by
    obtain ⟨h1, h2⟩ := HE.out
    obtain ⟨⟨_, _⟩, ⟨_, _⟩, ⟨_, _⟩, ⟨_, _⟩⟩ := ha
    have e1 : (2 : Int) ^ (0 + L) = 1 * 2 ^ L := by rw [Int.pow_add]; rfl
    have e2 : (2 : Int) ^ (0 + L - 1) = 1 * 2 ^ (L - 1) := by rw [show 0 + L - 1 = 0 + (L - 1) from by omega, Int.pow_add]; rfl
    show _ ∧ _
    rw [e1, e2]
    unfold num
    exact ⟨by omega, Or.inr (by omega)⟩
  clear HE ha hu h
  unfold W4 at *
  go_enter Tryz.func92, Tryz.ntmps92
  go_wp2_with fail
  refine Calls.mono (HU.out _) ?_
  rintro e w1 ⟨rfl, c, rfl⟩
  go_wp2_with (first | (go_at_call 93; go_must (refine Calls.mono (HL.out _) ?_; rintro e w' ⟨rfl, rfl⟩)))
  go_ret
  exact ⟨0 + L, by first | rfl | go_num | (simp; done), by omega, HN, by go_grown⟩
set_option maxHeartbeats 1000000 in
theorem bitLen_1 (a0 a1 : Int) (ha : L4 a0 a1 0 0) (h : a1 ≠ 0) (w : World) :
    Calls Tryz.prog 92 #[W4 a0 a1 0 0] w fun e w' => ∃ n : Nat, e = .returned (.int .i64 n) ∧ n ≤ 256 ∧ Hid (num a0 a1 0 0 < 2 ^ n ∧ (n = 0 ∨ 2 ^ (n - 1) ≤ num a0 a1 0 0)) ∧ Below w.heap.size w w' := by
  have hl : Limb a1 := ha.2.1
  obtain ⟨hl0, hl1⟩ := hl
  obtain ⟨L, hL0, hL1, HL, HE⟩ := len_ex a1 (by omega) hl1
  have HL : Hid _ := HL
  have hu : usedN a0 a1 0 0 = 2 := by unfold usedN; simp [h]
  have HU : Hid (∀ w, Calls Tryz.prog 80 #[W4 a0 a1 0 0] w fun e w' => e = .returned (.int .i64 2) ∧ ∃ c, w' = w.alloc (.cells c 24)) := fun w => by
    have := used_any a0 a1 0 0 w
    rw [hu] at this; exact this
  have HN : Hid (num a0 a1 0 0 < 2 ^ (64 + L) ∧ (64 + L = 0 ∨ 2 ^ (64 + L - 1) ≤ num a0 a1 0 0)) := by
    obtain ⟨h1, h2⟩ := HE.out
    obtain ⟨⟨_, _⟩, ⟨_, _⟩, ⟨_, _⟩, ⟨_, _⟩⟩ := ha
    have e1 : (2 : Int) ^ (64 + L) = 18446744073709551616 * 2 ^ L := by rw [Int.pow_add]; rfl
    have e2 : (2 : Int) ^ (64 + L - 1) = 18446744073709551616 * 2 ^ (L - 1) := by rw [show 64 + L - 1 = 64 + (L - 1) from by omega, Int.pow_add]; rfl
    show _ ∧ _
    rw [e1, e2]
    unfold num
    exact ⟨by omega, Or.inr (by omega)⟩
  clear HE ha hu h
  unfold W4 at *
  go_enter Tryz.func92, Tryz.ntmps92
  go_wp2_with fail
  refine Calls.mono (HU.out _) ?_
  rintro e w1 ⟨rfl, c, rfl⟩
  go_wp2_with (first | (go_at_call 93; go_must (refine Calls.mono (HL.out _) ?_; rintro e w' ⟨rfl, rfl⟩)))
  go_ret
  exact ⟨64 + L, by first | rfl | go_num | (simp; done), by omega, HN, by go_grown⟩
set_option maxHeartbeats 1000000 in
theorem bitLen_2 (a0 a1 a2 : Int) (ha : L4 a0 a1 a2 0) (h : a2 ≠ 0) (w : World) :
    Calls Tryz.prog 92 #[W4 a0 a1 a2 0] w fun e w' => ∃ n : Nat, e = .returned (.int .i64 n) ∧ n ≤ 256 ∧ Hid (num a0 a1 a2 0 < 2 ^ n ∧ (n = 0 ∨ 2 ^ (n - 1) ≤ num a0 a1 a2 0)) ∧ Below w.heap.size w w' := by
  have hl : Limb a2 := ha.2.2.1
  obtain ⟨hl0, hl1⟩ := hl
  obtain ⟨L, hL0, hL1, HL, HE⟩ := len_ex a2 (by omega) hl1
  have HL : Hid _ := HL
  have hu : usedN a0 a1 a2 0 = 3 := by unfold usedN; simp [h]
  have HU : Hid (∀ w, Calls Tryz.prog 80 #[W4 a0 a1 a2 0] w fun e w' => e = .returned (.int .i64 3) ∧ ∃ c, w' = w.alloc (.cells c 24)) := fun w => by
    have := used_any a0 a1 a2 0 w
    rw [hu] at this; exact this
  have HN : Hid (num a0 a1 a2 0 < 2 ^ (128 + L) ∧ (128 + L = 0 ∨ 2 ^ (128 + L - 1) ≤ num a0 a1 a2 0)) := by
    obtain ⟨h1, h2⟩ := HE.out
    obtain ⟨⟨_, _⟩, ⟨_, _⟩, ⟨_, _⟩, ⟨_, _⟩⟩ := ha
    have e1 : (2 : Int) ^ (128 + L) = 340282366920938463463374607431768211456 * 2 ^ L := by rw [Int.pow_add]; rfl
    have e2 : (2 : Int) ^ (128 + L - 1) = 340282366920938463463374607431768211456 * 2 ^ (L - 1) := by rw [show 128 + L - 1 = 128 + (L - 1) from by omega, Int.pow_add]; rfl
    show _ ∧ _
    rw [e1, e2]
    unfold num
    exact ⟨by omega, Or.inr (by omega)⟩
  clear HE ha hu h
  unfold W4 at *
  go_enter Tryz.func92, Tryz.ntmps92
  go_wp2_with fail
  refine Calls.mono (HU.out _) ?_
  rintro e w1 ⟨rfl, c, rfl⟩
  go_wp2_with (first | (go_at_call 93; go_must (refine Calls.mono (HL.out _) ?_; rintro e w' ⟨rfl, rfl⟩)))
  go_ret
  exact ⟨128 + L, by first | rfl | go_num | (simp; done), by omega, HN, by go_grown⟩
set_option maxHeartbeats 1000000 in
theorem bitLen_3 (a0 a1 a2 a3 : Int) (ha : L4 a0 a1 a2 a3) (h : a3 ≠ 0) (w : World) :
    Calls Tryz.prog 92 #[W4 a0 a1 a2 a3] w fun e w' => ∃ n : Nat, e = .returned (.int .i64 n) ∧ n ≤ 256 ∧ Hid (num a0 a1 a2 a3 < 2 ^ n ∧ (n = 0 ∨ 2 ^ (n - 1) ≤ num a0 a1 a2 a3)) ∧ Below w.heap.size w w' := by
  have hl : Limb a3 := ha.2.2.2
  obtain ⟨hl0, hl1⟩ := hl
  obtain ⟨L, hL0, hL1, HL, HE⟩ := len_ex a3 (by omega) hl1
  have HL : Hid _ := HL
  have hu : usedN a0 a1 a2 a3 = 4 := by unfold usedN; simp [h]
  have HU : Hid (∀ w, Calls Tryz.prog 80 #[W4 a0 a1 a2 a3] w fun e w' => e = .returned (.int .i64 4) ∧ ∃ c, w' = w.alloc (.cells c 24)) := fun w => by
    have := used_any a0 a1 a2 a3 w
    rw [hu] at this; exact this
  have HN : Hid (num a0 a1 a2 a3 < 2 ^ (192 + L) ∧ (192 + L = 0 ∨ 2 ^ (192 + L - 1) ≤ num a0 a1 a2 a3)) := by
    obtain ⟨h1, h2⟩ := HE.out
    obtain ⟨⟨_, _⟩, ⟨_, _⟩, ⟨_, _⟩, ⟨_, _⟩⟩ := ha
    have e1 : (2 : Int) ^ (192 + L) = 6277101735386680763835789423207666416102355444464034512896 * 2 ^ L := by rw [Int.pow_add]; rfl
    have e2 : (2 : Int) ^ (192 + L - 1) = 6277101735386680763835789423207666416102355444464034512896 * 2 ^ (L - 1) := by rw [show 192 + L - 1 = 192 + (L - 1) from by omega, Int.pow_add]; rfl
    show _ ∧ _
    rw [e1, e2]
    unfold num
    exact ⟨by omega, Or.inr (by omega)⟩
  clear HE ha hu h
  unfold W4 at *
  go_enter Tryz.func92, Tryz.ntmps92
  go_wp2_with fail
  refine Calls.mono (HU.out _) ?_
  rintro e w1 ⟨rfl, c, rfl⟩
  go_wp2_with (first | (go_at_call 93; go_must (refine Calls.mono (HL.out _) ?_; rintro e w' ⟨rfl, rfl⟩)))
  go_ret
  exact ⟨192 + L, by first | rfl | go_num | (simp; done), by omega, HN, by go_grown⟩
set_option maxHeartbeats 1000000 in
theorem bitLen_none (w : World) :
    Calls Tryz.prog 92 #[W4 0 0 0 0] w fun e w' => e = .returned (.int .i64 0) ∧ Below w.heap.size w w' := by
  have HU : Hid (∀ w, Calls Tryz.prog 80 #[W4 0 0 0 0] w fun e w' => e = .returned (.int .i64 0) ∧ ∃ c, w' = w.alloc (.cells c 24)) := fun w => used_any 0 0 0 0 w
  unfold W4 at *
  go_enter Tryz.func92, Tryz.ntmps92
  go_wp2_with fail
  refine Calls.mono (HU.out _) ?_
  rintro e w1 ⟨rfl, c, rfl⟩
  go_wp2
  go_ret
  exact ⟨rfl, by go_grown⟩
theorem bitLen_any (a0 a1 a2 a3 : Int) (ha : L4 a0 a1 a2 a3) (w : World) :
    Calls Tryz.prog 92 #[W4 a0 a1 a2 a3] w fun e w' => ∃ n : Nat, e = .returned (.int .i64 n) ∧ n ≤ 256 ∧ Hid (num a0 a1 a2 a3 < 2 ^ n ∧ (n = 0 ∨ 2 ^ (n - 1) ≤ num a0 a1 a2 a3)) ∧ Below w.heap.size w w' := by
  by_cases h3 : a3 = 0
  · subst h3
    by_cases h2 : a2 = 0
    · subst h2
      by_cases h1 : a1 = 0
      · subst h1
        by_cases h0 : a0 = 0
        · subst h0
          exact (bitLen_none w).mono fun e w' ⟨he, hw⟩ => ⟨0, he, by omega, ⟨by decide, Or.inl rfl⟩, hw⟩
        · exact bitLen_0 a0 ha h0 w
      · exact bitLen_1 a0 a1 ha h1 w
    · exact bitLen_2 a0 a1 a2 ha h2 w
  · exact bitLen_3 a0 a1 a2 a3 ha h3 w
set_option maxHeartbeats 1000000 in
theorem or_any (a0 a1 a2 a3 b0 b1 b2 b3 : Int) (w : World) :
    Calls Tryz.prog 77 #[W4 a0 a1 a2 a3, W4 b0 b1 b2 b3] w fun e w' => e = .returned (W4 (bits .or .u64 a0 b0) (bits .or .u64 a1 b1) (bits .or .u64 a2 b2) (bits .or .u64 a3 b3)) ∧ Below w.heap.size w w' := by
  unfold W4
  go_enter Tryz.func77, Tryz.ntmps77
  go_wp2
  refine wp_loop_rounds 5 ?_
  iterate 4
    rw [rounds_succ]
    go_wp2
    try go_region
    go_wp2
  rw [rounds_succ]
  go_wp2
  go_returns
  exact ⟨rfl, by go_grown⟩
end Go.Proofs.YtionjibiemncbabGreat
